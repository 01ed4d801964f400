/-
  slices.AppendSeq over an iterator that hands out matrices of whole numbers: the call.
-/
import Derived.Test.YtalonncjdohejaaAppendSeq
import Derived.Maps.OwnIn
namespace Go.Proofs.Ytalonncjdohejaa
open Go.RowKit Go.Shelf

attribute [local go_sem] Oper.semAt_some
set_option maxRecDepth 100000 in
set_option maxHeartbeats 4000000 in
theorem appendSeq_any (g : Nat) (lb : Array Value) (Ms : List MatI) (hN : Ms.length ≤ 100000) (priv : Nat → Prop) (W : World) (eg : ∀ args w, (callFunc g args).run Try.prog w = .ok (.enter g args) w)
    (hI : ∀ W1, Below W.heap.size W W1 → IterC Try.prog g lb Ms.length (PvM W1.heap.size Ms) priv W1) (hp : ∀ b, priv b → b < W.heap.size) :
    Calls Try.prog 63 #[.slice none 0 0, .func (.func g) #[] lb] W fun e w' => ∃ v vs RS, e = .returned v ∧ Owns3R w' (W.heap.size + 3) v vs RS Ms ∧ Below W.heap.size W w' := by
  refine (callsIn_wide (n := 3)).1 ?_
  refine callsIn_of_wp_marks Try.func63 rfl trivial ?_ rfl
  simp only [Try.ntmps63, List.size_toArray, List.length_cons, List.length_nil, Nat.reduceAdd, Nat.reduceSub, Array.replicate_succ, Array.replicate_zero, List.push_toArray, List.append_toArray, List.nil_append, List.cons_append]
  gi_wp2
  have B1 : Below W.heap.size W (W.alloc (.cells #[.slice none 0 0] 22)) := (Below.refl _ _).alloc (Nat.le_refl _) _
  have b0 := Boxed.new W 22 (.slice none 0 0)
  have hsz : (W.alloc (.cells #[.slice none 0 0] 22)).heap.size = W.heap.size + 1 := by simp
  refine rf_outer rfl eg ?_
  intro fn r WL hr hWL
  rw [hsz]
  have hszL : WL.heap.size = W.heap.size + 3 := by rw [hWL]; simp
  have hBL : Below W.heap.size W WL := by rw [hWL]; exact (B1.alloc (by simp) _).alloc (by simp; omega) _
  have c0 : Boxed WL W.heap.size 22 (.slice none 0 0) := by rw [hWL]; exact (b0.alloc _).alloc _
  have hlr : WL.heap[W.heap.size + 2]? = some (.loop r) := by
    rw [hWL]; have h := World.alloc_heap_new ((W.alloc (.cells #[.slice none 0 0] 22)).alloc (.deferred (some []))) (.loop r); rw [World.size_alloc, hsz] at h; exact h
  have hD : WL.heap[W.heap.size + 1]? = some (.deferred (some [])) := by
    have h := World.alloc_heap_new (W.alloc (.cells #[.slice none 0 0] 22)) (.deferred (some []))
    rw [hsz] at h
    rw [hWL]; exact (Below.heap_alloc _ _ _ (by simp)).trans h
  have hrr : r = { r with state := .ready, pending := none } := by rw [hr]
  have hround : ∀ i V1 x X Wr, i < Ms.length → CollJ W.heap.size r .ready (Ms.take i) V1 Wr → Bnd V1 Wr → PvM WL.heap.size Ms i x X Wr → Bnd X Wr → (∀ b, X b → ¬ V1 b) → ∀ m, YieldAt Fence.wide m Try.prog (W.heap.size + 2) #[x] Wr fun e W' =>
      ∃ V', StepU (fun b => V1 b ∨ X b) V' Wr W' ∧ ((e = .returned (.bool true) ∧ CollJ W.heap.size r .ready (Ms.take (i + 1)) V' W') ∨ (e = .returned (.bool false) ∧ False)) := by
    intro i V1 x X Wr hi hj hV1 hpv hX hXV m
    obtain ⟨rs, hxo, ⟨ad, nx, cx, rfl⟩, hXi⟩ := hpv
    obtain ⟨hl0, hu2⟩ := hj.record
    refine rf_yield hl0 (by rw [hr]; rfl) ?_
    obtain ⟨R, hR⟩ : ∃ R : Ending → World → Prop, R = (fun e W' => ∃ V', StepU (fun b => V1 b ∨ X b) V' Wr W' ∧ ((e = .returned (.bool true) ∧ CollJ W.heap.size r .ready (Ms.take (i + 1)) V' W') ∨ (e = .returned (.bool false) ∧ False))) := ⟨_, rfl⟩
    rw [← hR]
    have hjp := hj.put .busy
    have hsp := StepU.put (.loop { r with state := .busy, pending := none }) hV1 hu2
    have hbr := run_beginRound (P := Try.prog) hl0 rfl
    have hxo2 := hxo.same (w' := Wr.putObj (W.heap.size + 2) (.loop { r with state := .busy, pending := none })) (fun b hb => hsp.same b (hX b ((hXi b).2 (.inl hb))) (hXV b ((hXi b).2 (.inl hb)))) (fun i x b hx hb => hsp.same b (hX b ((hXi b).2 (.inr ⟨i, x, hx, hb⟩))) (hXV b ((hXi b).2 (.inr ⟨i, x, hx, hb⟩))))
    dsimp only at hbr
    obtain ⟨Wb, hWb⟩ : ∃ Wb, Wr.putObj (W.heap.size + 2) (.loop { r with state := .busy, pending := none }) = Wb := ⟨_, rfl⟩
    rw [hWb] at hjp hsp hbr hxo2
    rw [hszL] at hxo2
    obtain ⟨v, vs, RS, h1, h2, h3, h4, h5, h6, h7, h8⟩ := hjp
    have hrow := h2.1
    have hvl := h2.2.1
    have hsb := hsp.size
    have hlt2 : W.heap.size + 2 < Wb.heap.size := by rw [Array.getElem?_eq_some_iff] at h3; exact h3.1
    have HBR := Lib.hid hbr
    have HSP := Lib.hid hsp
    have HR := Lib.hid hR
    have HX := Lib.hid hX
    have HXV := Lib.hid hXV
    have HXI := Lib.hid hXi
    have HV1 := Lib.hid hV1
    have HXO := Lib.hid hxo2
    have H2 := Lib.hid h2
    have H3 := Lib.hid h3
    have H4 := Lib.hid h4
    have H5 := Lib.hid h5
    have H6 := Lib.hid h6
    have H7 := Lib.hid h7
    have H8 := Lib.hid h8
    have hc0 := h1.cell
    have HB1 := Lib.hid h1
    have HI := Lib.hid hi
    have hil : (Ms.take i).length ≤ 100000 := by rw [List.length_take]; omega
    obtain ⟨n, hn⟩ : ∃ n, (Ms.take i).length = n := ⟨_, rfl⟩
    rw [hn] at hrow hvl hil
    clear hn
    rw [hr]
    dsimp only
    clear hr hbr hsp hR hX hXV hXi hV1 hxo2 hxo h1 h2 h3 h4 h5 h6 h7 h8 hj hl0 hu2 hWL hrr hD hlr c0 hBL B1 b0 hsz hWb hI hi
    obtain ⟨i0, hi, hz0, hz1, hz2⟩ := info_parts Try.infoPair
    gi_wp2
    refine ⟨_, HBR.out, ?_⟩
    have hK3 : ∀ (v' : Value) (w3 : World), w3.ownsRow (W.heap.size + 3) 27 1 v' (n + 1) (vs ++ [.slice (some ad) nx cx]) → (Wb.alloc (.cells #[.slice (some ad) nx cx] 27)).grownBy w3 v.ownBlock → (v'.ownBlock = v.ownBlock ∨ v'.ownBlock = some (Wb.heap.size + 1)) →
        w3.cell? ⟨W.heap.size, 0, none⟩ = some v ∧ w3.frozen? ⟨W.heap.size, 0, none⟩ = false ∧ Hid (R (.returned (.bool true)) ((w3.setCell ⟨W.heap.size, 0, none⟩ v').putObj (W.heap.size + 2) (.loop { r with state := .ready, pending := none }))) ∧ Hid ((w3.setCell ⟨W.heap.size, 0, none⟩ v').heap[W.heap.size + 2]? = some (.loop { r with state := .busy, pending := none })) := by
      intro v' w3 hown' hgrow hblk
      have hGG : Wb.grownBy w3 v.ownBlock := by
        have s := hgrow.size
        simp at s
        exact ⟨hgrow.os, hgrow.tape, hgrow.output, by omega, fun b hb hne => by rw [hgrow.block b (by simp; omega) hne, Below.heap_alloc _ _ _ hb]⟩
      have hbox : Boxed w3 W.heap.size 22 v := HB1.out.kept hGG (fun e => by have := (hrow.lt W.heap.size e.symm).1; omega)
      obtain ⟨V', hst, hcj⟩ := CollJ.more (r := r) (st := .busy) (M := Ms.getD i []) HB1.out H2.out H3.out H4.out H5.out H6.out H7.out H8.out HXO.out HXI.out HXV.out HSP.out.bnd (fun b hb => by have := HX.out b hb; omega) hGG (by rw [show (vs ++ [Value.slice (some ad) nx cx]).length = n + 1 by simp [hvl]]; exact hown') (by
        rcases hblk with h | h
        · exact .inl h
        · exact .inr ⟨_, h, by omega⟩)
      have hcp := hcj.put .ready
      have hu := hcj.record.2
      have htk : Ms.take i ++ [Ms.getD i []] = Ms.take (i + 1) := by
        rw [List.take_succ_eq_append_getElem HI.out]; simp [HI.out]
      rw [htk] at hcp
      refine ⟨hbox.cell, hbox.frozen, Lib.hid ?_, Lib.hid hcj.record.1⟩
      have hsp2 : StepU (fun b => V1 b ∨ X b) (fun b => V1 b ∨ X b) Wr Wb := ⟨HSP.out.os, HSP.out.tape, HSP.out.output, HSP.out.size, fun b hb hu => HSP.out.same b hb (fun h => hu (.inl h)), fun b h => .inl h, fun b h => h.elim (fun h => HSP.out.bnd b h) (fun h => by have := HX.out b h; omega)⟩
      rw [HR.out]
      exact ⟨V', (hsp2.trans hst).trans (StepU.put _ hst.bnd hu), .inl ⟨rfl, hcp⟩⟩
    have HK3 := Lib.hid hK3
    clear hK3
    gi_wp2_with (gi_at_builtin; refine wpListIn_append_own_at _ rfl _ _ 22 rfl (W.heap.size + 3) 27 i0 (.slice none 0 0) 1 24 Try.underlying22 hi hz0 hz1 hz2 rfl (by decide) _ _ _ rfl (hrow.alloc _) ⟨Wb.heap.size, 0, none⟩ 1 1 [.slice (some ad) nx cx] rfl rfl (cells_new _ _ _) (by simp [Value.oneCell']) (by unfold maxLen; omega) (by omega) (by simp; omega) ?_; intro v' w3 hown' hgrow _ hblk; obtain ⟨hc3, hf3, HRR, HRC⟩ := HK3.out v' w3 hown' hgrow (hblk.elim (fun h => .inl h) (fun h => .inr (by simpa using h))); obtain ⟨g', cap', rfl⟩ := ownsRow_succ hown'; clear hown' hgrow hblk HK3 hc0 hrow)
    refine ⟨_, _, run_endRound none HRC.out, ?_⟩
    exact HRR.out
  have hit := hI WL hBL (W.heap.size + 2) (fun i => CollJ W.heap.size r .ready (Ms.take i)) (fun _ _ _ => False) (fun b => W.heap.size ≤ b ∧ b < W.heap.size + 3)
    (fun i V A B h _ hS => h.stay hS) (fun i V A B h _ hS => h) hround
    ⟨_, [], [], c0, by rw [List.take_zero]; exact Owns3R.nil _ _, by rw [← hrr]; exact hlr, hD, fun b hb => by
      rcases hb with hb | ⟨k, x, hx, _⟩ | ⟨i, j, rs, x, hx, _⟩
      · simp [Value.ownBlock] at hb
      · simp at hx
      · simp at hx, ⟨by omega, by omega⟩, ⟨by omega, by omega⟩, ⟨by omega, by omega⟩⟩
    (fun b hb => by omega) (fun b hb h => by have := hp b hb; omega)
  refine Calls.mono hit ?_
  rintro e W4 ⟨hv, U4, hst4, hh⟩
  refine ⟨hv, ?_⟩
  rcases hh with hT | hT
  · rw [List.take_length] at hT
    have hT2 := hT.put .exhausted
    obtain ⟨v, vs, RS, h1, h2, h3, h4, h5, h6, h7, h8⟩ := hT2
    refine ⟨.ready, none, (by simp), hT.record.1, ?_⟩
    rw [show W.heap.size + 1 + 1 = W.heap.size + 2 from rfl]
    dsimp only
    have hg4 := grownBy_putObj' W4 (W.heap.size + 2) (.loop { r with state := .exhausted, pending := none })
    obtain ⟨W5, hW5⟩ : ∃ W5, W4.putObj (W.heap.size + 2) (.loop { r with state := .exhausted, pending := none }) = W5 := ⟨_, rfl⟩
    rw [hW5] at h1 h2 h3 h4 hg4
    rw [hW5]
    have hlt1 : W.heap.size + 1 < W5.heap.size := by rw [Array.getElem?_eq_some_iff] at h4; exact h4.1
    have hg5 := grownBy_putObj' W5 (W.heap.size + 1) (.deferred none)
    have hfin : Owns3R (W5.putObj (W.heap.size + 1) (.deferred none)) (W.heap.size + 3) v vs RS Ms := h2.same (fun b hb => hg5.block b (h2.lt hb).2 (fun e => by have := (h2.lt hb).1; have := Option.some.inj e; omega))
    have hbel : Below W.heap.size W (W5.putObj (W.heap.size + 1) (.deferred none)) := by
      have s1 := hst4.size
      have s2 := hg4.size
      have s3 := hg5.size
      refine hBL.trans ⟨hg5.os.trans (hg4.os.trans hst4.os), hg5.tape.trans (hg4.tape.trans hst4.tape), hg5.output.trans (hg4.output.trans hst4.output), by omega, fun b hb => ?_⟩
      rw [hg5.block b (by omega) (fun e => by have := Option.some.inj e; omega), hg4.block b (by omega) (fun e => by have := Option.some.inj e; omega)]
      exact hst4.same b (by omega) (fun h => by omega)
    have hc := h1.cell
    have HF := Lib.hid hfin
    have HB := Lib.hid hbel
    have H4 := Lib.hid h4
    clear hfin hbel h1 h2 h3 h4 h5 h6 h7 h8 hT hst4 hit hround hI hp hr hWL hlr hD hrr c0 hBL B1 b0 hW5 hg4 hg5
    gi_wp2
    refine ⟨by simp, .inl ⟨_, _, rfl, run_takeDeferred H4.out, ?_⟩⟩
    exact ⟨_, results_tmp rfl _ _ _, v, vs, RS, rfl, HF.out, HB.out⟩
  · exact hT.elim
end Go.Proofs.Ytalonncjdohejaa
