/-
  terminalLists in the program: the longer lists out of the shorter ones.
-/
import Derived.Test.YtalonncjdohejaaTermLem
import Derived.Test.YtalonncjdohejaaNodesOwn
import Derived.Test.YtalonncjdohejaaConcatOwn
namespace Go.Proofs.Ytalonncjdohejaa
open Go.RowKit Go.Shelf

attribute [local go_sem] Oper.semAt_some
set_option maxRecDepth 100000 in
set_option maxHeartbeats 8000000 in
theorem term_succ (k s : Nat) (hk : k ≤ 5) (hs1 : s ≤ 1)
    (ih : ∀ (Bs Bk : Nat) (W : World), W.cell? ⟨Bs, 0, none⟩ = some (.int .i64 (s : Int)) → W.cell? ⟨Bk, 0, none⟩ = some (.int .i64 (k : Int)) → IterC Try.prog 84 #[.pointer (some ⟨Bs, 0, none⟩), .pointer (some ⟨Bk, 0, none⟩)] (listsL k s).length (PvL W.heap.size k s) (fun b => b = Bs ∨ b = Bk) W)
    (Bs Bk : Nat) (W : World) (hs : W.cell? ⟨Bs, 0, none⟩ = some (.int .i64 ((s : Int) + 1))) (hkc : W.cell? ⟨Bk, 0, none⟩ = some (.int .i64 (k : Int))) :
    IterC Try.prog 84 #[.pointer (some ⟨Bs, 0, none⟩), .pointer (some ⟨Bk, 0, none⟩)] (listsL k (s + 1)).length (PvL W.heap.size k (s + 1)) (fun b => b = Bs ∨ b = Bk) W := by
  intro l J Jx U hJ hJx hY h0 hU hpriv
  have hsl : Bs < W.heap.size := World.block_lt_of_cell? _ _ hs
  have hkl : Bk < W.heap.size := World.block_lt_of_cell? _ _ hkc
  have B1 : Below W.heap.size W (W.alloc (.cells #[.func (.yield l) #[] #[]] 97)) := (Below.refl _ _).alloc (Nat.le_refl _) _
  have hs1' := (B1.cell (p := ⟨Bs, 0, none⟩) hsl).trans hs
  have hk1' := (B1.cell (p := ⟨Bk, 0, none⟩) hkl).trans hkc
  have hne0 : ¬ ((s : Int) + 1 = 0) := by omega
  have hne1 : ((s : Int) + 1 == 0) = false := by rw [beq_eq_false_iff_ne]; omega
  refine (callsIn_wide (n := 3)).1 ?_
  refine callsIn_of_wp_marks Try.func84 rfl trivial ?_ rfl
  simp only [Try.ntmps84, List.size_toArray, List.length_cons, List.length_nil, Nat.reduceAdd, Nat.reduceSub, Array.replicate_succ, Array.replicate_zero, List.push_toArray, List.append_toArray, List.nil_append, List.cons_append]
  gi_wp2_with (refine ⟨trivial, ?_⟩; gi_at_call 65; refine (callsIn_wide.2 (term_make _ _ _)).mono ?_; rintro e w2 ⟨rfl, rfl⟩)
  have hsz3 : (((W.alloc (.cells #[.func (.yield l) #[] #[]] 97)).alloc (.cells #[.int .i64 (k : Int)] 3)).alloc (.cells #[.int .i64 (s : Int)] 3)).heap.size = W.heap.size + 3 := by simp
  have hB3 : Below W.heap.size W (((W.alloc (.cells #[.func (.yield l) #[] #[]] 97)).alloc (.cells #[.int .i64 (k : Int)] 3)).alloc (.cells #[.int .i64 (s : Int)] 3)) := (B1.alloc (by simp) _).alloc (by simp; omega) _
  have b0 := ((Boxed.new W 97 (.func (.yield l) #[] #[])).alloc (.cells #[.int .i64 (k : Int)] 3)).alloc (.cells #[.int .i64 (s : Int)] 3)
  have b1 := (Boxed.new (W.alloc (.cells #[.func (.yield l) #[] #[]] 97)) 3 (.int .i64 (k : Int))).alloc (.cells #[.int .i64 (s : Int)] 3)
  have b2 := Boxed.new ((W.alloc (.cells #[.func (.yield l) #[] #[]] 97)).alloc (.cells #[.int .i64 (k : Int)] 3)) 3 (.int .i64 (s : Int))
  simp only [World.size_alloc] at b1 b2
  obtain ⟨W3, hW3⟩ : ∃ W3, ((W.alloc (.cells #[.func (.yield l) #[] #[]] 97)).alloc (.cells #[.int .i64 (k : Int)] 3)).alloc (.cells #[.int .i64 (s : Int)] 3) = W3 := ⟨_, rfl⟩
  rw [hW3] at hsz3 hB3 b0 b1 b2 ⊢
  clear hW3
  refine rf_outer rfl (enters_of Try.func84 (by kernel_rfl) rfl) ?_
  intro fn r WL hr hWL
  rw [hsz3]
  have hszL : WL.heap.size = W.heap.size + 5 := by rw [hWL]; simp [hsz3]
  have hBL3 : Below W3.heap.size W3 WL := by rw [hWL]; exact ((Below.refl _ _).alloc (Nat.le_refl _) _).alloc (by simp) _
  have hBL : Below W.heap.size W WL := hB3.trans (hBL3.mono (by omega))
  have hlr : WL.heap[W.heap.size + 4]? = some (.loop r) := by
    rw [hWL]; have h := World.alloc_heap_new (W3.alloc (.deferred (some []))) (.loop r); rw [World.size_alloc, hsz3] at h; exact h
  have hD : WL.heap[W.heap.size + 3]? = some (.deferred (some [])) := by
    rw [hWL, ← hsz3]; exact (Below.heap_alloc _ _ _ (by simp)).trans (World.alloc_heap_new W3 _)
  have hrr : r = { r with state := .ready, pending := none } := by rw [hr]
  have c0 := (hBL3.cell (p := ⟨W.heap.size, 0, none⟩) (by show W.heap.size < _; omega)).trans b0.cell
  have c1 := (hBL3.cell (p := ⟨W.heap.size + 1, 0, none⟩) (by show W.heap.size + 1 < _; omega)).trans b1.cell
  have c2 := (hBL3.cell (p := ⟨W.heap.size + 1 + 1, 0, none⟩) (by show W.heap.size + 1 + 1 < _; omega)).trans b2.cell
  have hUL : Bnd U WL := fun b hb => by have := hU b hb; omega
  have hround : ∀ i V1 x X Wr, i < (listsL k s).length → TermJ W U l Bk k r .ready none (J (partL k (listsL k s) i).length) V1 Wr → Bnd V1 Wr → PvL WL.heap.size k s i x X Wr → Bnd X Wr → (∀ b, X b → ¬ V1 b) → ∀ m, YieldAt Fence.wide m Try.prog (W.heap.size + 4) #[x] Wr fun e W' =>
      ∃ V', StepU (fun b => V1 b ∨ X b) V' Wr W' ∧ ((e = .returned (.bool true) ∧ TermJ W U l Bk k r .ready none (J (partL k (listsL k s) (i + 1)).length) V' W') ∨ (e = .returned (.bool false) ∧ TermJ W U l Bk k r .done (some .ret) (Jx ()) V' W')) := by
    intro i V1 x X Wr hi hj hV1 hpv hX hXV m
    have hfx := hj.fix
    obtain ⟨f1, f2, f3, f4, f5⟩ := hfx
    have hW5 : W.heap.size + 5 ≤ Wr.heap.size := by
      obtain ⟨V, _, _, _, hst, _⟩ := hj
      rw [Array.getElem?_eq_some_iff] at f2
      obtain ⟨hlt, _⟩ := f2
      omega
    refine rf_yield f2 (by rw [hr]; rfl) ?_
    obtain ⟨R, hR⟩ : ∃ R : Ending → World → Prop, R = (fun e W' => ∃ V', StepU (fun b => V1 b ∨ X b) V' Wr W' ∧ ((e = .returned (.bool true) ∧ TermJ W U l Bk k r .ready none (J (partL k (listsL k s) (i + 1)).length) V' W') ∨ (e = .returned (.bool false) ∧ TermJ W U l Bk k r .done (some .ret) (Jx ()) V' W'))) := ⟨_, rfl⟩
    rw [← hR]
    have hjp := hj.put (fun V A B => hJ _ V A B) hkl .busy none
    have hgp := grownBy_putObj' Wr (W.heap.size + 4) (.loop { r with state := .busy, pending := none })
    have hu4 : V1 (W.heap.size + 4) := f1 _ (by omega) (by omega) (by omega)
    have hsp := StepU.put (.loop { r with state := .busy, pending := none }) hV1 hu4
    have hbr := run_beginRound (P := Try.prog) f2 rfl
    have hxo := ownsRow_same hpv.1 (W' := Wr.putObj (W.heap.size + 4) (.loop { r with state := .busy, pending := none })) (fun b hb => by
      have hxb := (hpv.2 b).2 hb
      have := hX b hxb
      exact hsp.same b this (hXV b hxb))
    dsimp only at hbr
    have HYU := Lib.hid hY
    have hlenL := lists_len k s ((listsL k s).getD i []) (by rw [List.getD_eq_getElem?_getD, List.getElem?_eq_getElem hi]; exact List.getElem_mem hi)
    obtain ⟨L, hL⟩ : ∃ L, (listsL k s).getD i [] = L := ⟨_, rfl⟩
    have HPV := Lib.hid hpv
    unfold PvL at hpv
    rw [hL] at hxo hpv hlenL
    obtain ⟨Wb, hWb⟩ : ∃ Wb, Wr.putObj (W.heap.size + 4) (.loop { r with state := .busy, pending := none }) = Wb := ⟨_, rfl⟩
    rw [hWb] at hjp hsp hbr hxo
    have hWO := impl_withoutO k hk x L Wb (ReadsI.of_own hxo)
    have hf5 := hjp.fix.2.2.2.2
    have HBR := Lib.hid hbr
    have HJP := Lib.hid hjp
    have HSP := Lib.hid hsp
    have HR := Lib.hid hR
    have HX := Lib.hid hX
    have HXV := Lib.hid hXV
    have HV1 := Lib.hid hV1
    have HPX := Lib.hid hpv.2
    have HXO := Lib.hid hxo
    have HL := Lib.hid hL
    have hL1 : L.length ≤ 1 := by omega
    clear hlenL hL
    have HF1 := Lib.hid f1
    have hsb := hsp.size
    have hW5b : W.heap.size + 5 ≤ Wb.heap.size := by omega
    rw [hr]
    dsimp only
    clear hr hbr hjp hsp hR hX hXV hV1 hpv hxo f1 f2 f3 f4 f5 hj hgp hWL hs hkc hs1' hk1' c0 c1 c2 b0 b1 b2 hD hBL hBL3 hUL hlr hrr hB3 hsz3 hszL hWb hne1 hne0 hu4 B1 hY 
    gi_wp2
    refine ⟨_, HBR.out, ?_⟩
    gi_wp2_with (refine ⟨trivial, (fun h => by cases h), ?_⟩; gi_at_call 85; refine (CallsIn.inRound _ (callsIn_wide.2 hWO)).mono ?_; rintro e w1 ⟨v1, rfl, o1, B1⟩; obtain ⟨p1, c1, rfl, hc1, hc1'⟩ := (ReadsI.of_own o1).shape)
    have hxs := (ReadsI.of_own HXO.out).shape
    obtain ⟨px, cx, rfl, hcx, hcx'⟩ := hxs
    have hsw := B1.size
    have HJ1 := Lib.hid ((HJP.out).stay (fun V A B => hJ _ V A B) hkl (StayU.of_below B1 (fun b hb => by have := HV1.out b hb; omega)))
    have HXO1 : Hid (w1.ownsRow WL.heap.size 3 1 (.slice px L.length cx) L.length (cellsI L)) := Lib.hid (ownsRow_same HXO.out (fun b hb => by
      have hxb := (HPX.out b).2 hb
      have := HX.out b hxb
      exact B1.block b (by omega)))
    have HI := Lib.hid hi
    clear hi
    have HS1 : Hid (StepU V1 V1 Wr w1) := Lib.hid (HSP.out.trans (StepU.of_below B1 (fun b hb => by have := HV1.out b hb; omega)))
    have HO1 := Lib.hid o1
    clear o1
    gi_loopw [20] (fun iv wr => ∃ t : Nat, t ≤ (woL k L).length ∧ iv = .int .i64 t ∧ Hid (∃ U2, StepU V1 U2 w1 wr ∧ TermJ W U l Bk k r .busy none (J ((partL k (listsL k s) i).length + t)) U2 wr))
      (fun iv _ => (woL k L).length - (intOf iv).toNat)
    case atStart => exact ⟨0, Nat.zero_le _, rfl, Lib.hid ⟨V1, ⟨rfl, rfl, rfl, Nat.le_refl _, fun _ _ _ => rfl, fun _ h => .inl h, HS1.out.bnd⟩, HJ1.out⟩⟩
    case round =>
      obtain ⟨t, ht, rfl, hinv⟩ := hrel
      obtain ⟨U2, hst2, hT2⟩ := hinv.out
      have hg1 := hst2.size
      by_cases hlt : t < (woL k L).length
      · obtain ⟨g1, cg, he⟩ := ownsRow_at (by omega) HO1.out
        have hgg := HO1.out.lt g1 (by rw [he]; rfl)
        have hg1V : ¬ V1 g1 := fun hv => by have := HV1.out g1 hv; omega
        obtain rfl : p1 = some ⟨g1, 0, none⟩ := by injection he
        have hcell := (ReadsI.of_own (ownsRow_same HO1.out (W' := wr) (fun b hb => by
          obtain rfl : g1 = b := by simpa [Value.ownBlock] using hb
          exact hst2.same _ hgg.2 hg1V))).at t hlt
        rw [Nat.zero_add] at hcell
        have hown := ownsRow_same HXO1.out (W' := wr) (fun b hb => by
          have hxb := (HPX.out b).2 hb
          have := HX.out b hxb
          exact hst2.same b (by omega) (HXV.out b hxb))
        have HP : Hid (px = none → L.length = 0) := Lib.hid (fun h0 => by
          rcases hown.2 with ⟨_, h⟩ | ⟨g, cap, cur, h, _⟩
          · exact h
          · subst h0; cases h)
        have hf4 := hT2.fix.2.2.2.1
        have HEL := Lib.hid (lists_at HI.out HL.out hlt)
        have HRD := Lib.hid (ReadsI.of_own hown)
        have hmix : Try.prog.follows .mixedOrders = true := by kernel_rfl
        have HST2 := Lib.hid hst2
        have HT2 := Lib.hid hT2
        generalize (woL k L)[t] = v at *
        clear hown hst2 hT2 hinv he
        have HY2 : Hid (∀ v2 w2, w2.ownsRow wr.heap.size 3 1 v2 (L ++ [v]).length (cellsI (L ++ [v])) → Below wr.heap.size wr w2 → ∀ m', YieldAt (Fence.wide.inRound (W.heap.size + 4)) m' Try.prog l #[v2] w2 fun e W' => ∃ (U3 : Nat → Prop) (b : Bool), e = .returned (.bool b) ∧ StepU U2 U3 wr W' ∧ TermJ W U l Bk k r .busy none (if b = true then J ((partL k (listsL k s) i).length + t + 1) else Jx ()) U3 W') := Lib.hid (by
          intro v2 w2 o2 B2 m'
          obtain ⟨hn, _⟩ := List.getElem?_eq_some_iff.1 HEL.out
          refine YieldAt.inR _ (TermJ.yield hJ HYU.out hkl (hpriv _ (.inr rfl)) (by omega) HT2.out HST2.out.bnd B2 hn v2 (fun b => v2.ownBlock = some b) ⟨?_, fun b => Iff.rfl⟩ ?_ ?_ m')
          · rw [List.getD_eq_getElem?_getD, HEL.out]; exact ownsRow_base o2 (by omega)
          · intro b hb; exact (o2.lt b hb).1
          · intro b hb; exact (o2.lt b hb).2)
        have hL4 : L.length ≤ 4 := by omega
        have hw0 : W.heap.size < wr.heap.size := by omega
        have hw1 : ¬ W.heap.size = wr.heap.size := by omega
        have hw2 : ¬ W.heap.size = wr.heap.size + 1 := by omega
        gi_wp2_with fail
        have HN := Lib.hid (And.intro hlt (And.intro hW5b (And.intro hsw hg1)))
        clear hWO HBR HJP HSP HXO HXO1 HPV HF1 HJ1 h0 hU hcell hc1 hc1' hcx hcx' hgg hg1V hsb ht hlt hW5 hW5b hsw hg1 hsl hf5 B1 HO1 HL HI HX HXV HV1 HPX HYU HEL hL1
        gi_region_with_o (first
          | (refine ⟨trivial, (fun h => by cases h), ?_⟩; gi_at_call 83; refine (CallsIn.inRound _ (callsIn_wide.2 (concat_at wr _ v px cx L _ _ rfl HRD.out HP.out hL4))).mono ?_; rintro e w2 ⟨v2, rfl, o2, B2⟩; have hs2 := B2.size; have hf2 := (B2.cell (p := ⟨W.heap.size, 0, none⟩) (by show W.heap.size < _; omega)).trans hf4; obtain ⟨fn2, tmps2, assign2, body2, hy2, hR2⟩ := HY2.out v2 w2 o2 B2 (m - 1))
          | (refine ⟨(fun h => by cases h), ?_⟩; refine hR2.mono ?_; rintro e w4 ⟨U3, b, rfl, hst3, hT3⟩))
        all_goals
          have hstT := HST2.out.trans hst3
          have hb3 := hst3.bnd
          obtain ⟨hlt, hW5b, hsw, hg1⟩ := HN.out
          have hu4 := hT3.fix.1 (W.heap.size + 4) (by omega) (by omega) (by omega)
          have hrec := hT3.fix.2.1
          have HRC := Lib.hid hrec
          have HST3 := Lib.hid hstT
          have HT3 := Lib.hid hT3
          clear hrec hstT hT3 hst3 hy2 hR2 o2 hf2
          cases b
          · have HT4 : Hid (TermJ W U l Bk k r .busy none (Jx ()) U3 w4) := Lib.hid (by have h := HT3.out; rw [if_neg (by simp)] at h; exact h)
            have hfin := ((HS1.out.trans HST3.out).trans (StepU.put (.loop { r with state := .done, pending := some .ret }) hb3 hu4)).mono (U₀ := fun b => V1 b ∨ X b) (fun b hb => .inl hb)
            have hput := HT4.out.put (fun V A B => hJx _ V A B) hkl .done (some .ret)
            have HF1 := Lib.hid hfin
            have HF2 := Lib.hid hput
            clear hfin hput HT3 HT4 hb3 hu4
            gi_wp2
            refine ⟨_, _, run_endRound (some .ret) HRC.out, ?_⟩
            rw [HR.out]
            exact ⟨U3, HF1.out, .inr ⟨rfl, HF2.out⟩⟩
          · have HT4 : Hid (TermJ W U l Bk k r .busy none (J ((partL k (listsL k s) i).length + (t + 1))) U3 w4) := Lib.hid (by have h := HT3.out; rw [if_pos rfl] at h; exact h)
            clear HT3 hb3 hu4 HRC
            have hwl := woL_le k L
            gi_wp2
            go_roundw
            case rel => exact ⟨t + 1, by omega, by go_num, Lib.hid ⟨U3, HST3.out, HT4.out⟩⟩
            case measure => first | (simp [intOf]; done) | (simp [intOf]; omega)
      · obtain rfl : t = (woL k L).length := by omega
        have hrec := hT2.fix.2.1
        have HRC := Lib.hid hrec
        clear hrec
        have hb2 := hst2.bnd
        have hu4 := hT2.fix.1 (W.heap.size + 4) (by omega) (by omega) (by omega)
        have hfin := ((HS1.out.trans hst2).trans (StepU.put (.loop { r with state := .ready, pending := none }) hb2 hu4)).mono (U₀ := fun b => V1 b ∨ X b) (fun b hb => .inl hb)
        have hput := hT2.put (fun V A B => hJ _ V A B) hkl .ready none
        rw [← part_len HI.out HL.out] at hput
        have HF1 := Lib.hid hfin
        have HF2 := Lib.hid hput
        clear hfin hput hst2 hT2 hinv
        gi_wp2
        refine ⟨_, _, run_endRound none HRC.out, ?_⟩
        rw [HR.out]
        exact ⟨U2, HF1.out, .inl ⟨rfl, HF2.out⟩⟩
  have hit := ih (W.heap.size + 2) (W.heap.size + 1) WL c2 c1 (W.heap.size + 4) (fun i => TermJ W U l Bk k r .ready none (J (partL k (listsL k s) i).length)) (fun _ => TermJ W U l Bk k r .done (some .ret) (Jx ())) (fun b => b < W.heap.size + 5 ∧ b ≠ W.heap.size + 1 ∧ b ≠ W.heap.size + 2)
    (fun i V A B h _ hS => h.stay (fun V A B => hJ _ V A B) hkl hS) (fun i V A B h _ hS => h.stay (fun V A B => hJx _ V A B) hkl hS) hround
    ⟨U, by rw [partL_zero]; exact hJ _ U W WL h0 hU (StayU.of_below hBL hU), fun b hb => by have := hU b hb; omega, fun b hb hw => by have := hU b hb; omega, StepU.of_below hBL hU, fun b h1 h2 h3 => ⟨h1, h2, h3⟩, by rw [← hrr]; exact hlr, hD, c0, (hBL.cell (p := ⟨Bk, 0, none⟩) hkl).trans hkc⟩
    (fun b hb => by omega) (fun b hb h => by omega)
  refine Calls.mono hit ?_
  rintro e W4 ⟨hv, U4, hst4, hh⟩
  refine ⟨hv, ?_⟩
  rcases hh with hT | hT
  · have hT' : TermJ W U l Bk k r .ready none (J (listsL k (s + 1)).length) U4 W4 := by have h := hT; rw [partL_all] at h; exact h
    have hK := hT'.fix.deferred (.loop { r with state := .exhausted, pending := none })
    obtain ⟨V, hS, hJV⟩ := hT'.leave (fun V A B => hJ _ V A B) (.loop { r with state := .exhausted, pending := none }) (.deferred none)
    refine ⟨.ready, none, (by simp), hT'.fix.2.1, ?_⟩
    have HS := Lib.hid hS
    have HJV := Lib.hid hJV
    have HK := Lib.hid hK
    clear hS hJV hK hT hT' hst4 hit hround ih hY hWL hr hlr
    dsimp only
    gi_wp2
    refine ⟨by simp, .inl ⟨_, _, rfl, run_takeDeferred HK.out, ?_⟩⟩
    exact ⟨_, results_none rfl _ _ _, ⟨_, rfl⟩, V, HS.out, .inl HJV.out⟩
  · have hK := hT.fix.deferred (.loop { r with state := .exhausted, pending := some .ret })
    obtain ⟨V, hS, hJV⟩ := hT.leave (fun V A B => hJx _ V A B) (.loop { r with state := .exhausted, pending := some .ret }) (.deferred none)
    refine ⟨.done, some .ret, (by simp), hT.fix.2.1, ?_⟩
    have HS := Lib.hid hS
    have HJV := Lib.hid hJV
    have HK := Lib.hid hK
    clear hS hJV hK hT hst4 hit hround ih hY hWL hr hlr
    dsimp only
    gi_wp2
    refine ⟨by simp, .inl ⟨_, _, rfl, run_takeDeferred HK.out, ?_⟩⟩
    exact ⟨_, results_none rfl _ _ _, ⟨_, rfl⟩, V, HS.out, .inr HJV.out⟩
end Go.Proofs.Ytalonncjdohejaa
