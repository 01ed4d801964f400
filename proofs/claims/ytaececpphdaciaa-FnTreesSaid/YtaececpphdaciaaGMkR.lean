/-
  The laws of arithmetic for small fractions: what the sums, differences, products and inverses of a law of fractions are.
  spec.MakeRatio: some small fraction. And a code among the arguments.
-/
import Derived.Test.YtaececpphdaciaaGRat
import Derived.Test.YtaececpphdaciaaGDraw
import Derived.Test.YtaececpphdaciaaGRatS
import Derived.ProofKit
import Derived.ChangeSame
import Derived.Lib.SmallJoins
namespace Go.Proofs.Ytaececpphdaciaa

theorem IsV.cmp {n d m e p q r t : Int} (h : IsV n d p q) (k : IsV m e r t) : rCmp n d m e = (p * t - r * q).sign := by
  unfold rCmp
  rw [if_pos ⟨h.1, k.1⟩]
  have h1 := h.2.2
  have h2 := k.2.2
  have hq := h.2.1
  have ht := k.2.1
  have hd := h.pos
  have he := k.pos
  have e1 : (n * e - m * d) * (q * t) = (p * t - r * q) * (d * e) := by
    have a1 : (n * e - m * d) * (q * t) = (n * q) * (e * t) - (m * t) * (d * q) := by grind
    rw [a1, h1, h2]; grind
  have s1 : 0 < q * t := Int.mul_pos hq ht
  have s2 : 0 < d * e := Int.mul_pos hd he
  have e2 := congrArg Int.sign e1
  rw [Int.sign_mul (n * e - m * d) (q * t), Int.sign_mul (p * t - r * q) (d * e), Int.sign_eq_one_of_pos s1, Int.sign_eq_one_of_pos s2, Int.mul_one, Int.mul_one] at e2
  exact e2
/-- A small fraction: |p| at most 30, q from 1 to 30. -/
structure SmallV (n d : Int) (p q : Int) : Prop where
  is : IsV n d p q
  p0 : -30 ≤ p
  p1 : p ≤ 30
  q0 : 1 ≤ q
  q1 : q ≤ 30
theorem abs_le {x X : Int} (h : -X ≤ x ∧ x ≤ X) : x.natAbs ≤ X.natAbs := by omega
theorem mulB {a b A B : Int} (ha : -A ≤ a ∧ a ≤ A) (hb : -B ≤ b ∧ b ≤ B) : -(A * B) ≤ a * b ∧ a * b ≤ A * B := by
  have h1 : (a * b).natAbs ≤ A.natAbs * B.natAbs := by
    rw [Int.natAbs_mul]
    exact Nat.mul_le_mul (by omega) (by omega)
  have h2 : (A * B).natAbs = A.natAbs * B.natAbs := Int.natAbs_mul _ _
  have h3 : 0 ≤ A * B := Int.mul_nonneg (by omega) (by omega)
  omega
/-- All that the law of fractions reckons. -/
structure RatRun (n d m e f g s1 s2 p1 p2 l1 l2 u1 u2 v1 v2 c : Int) : Prop where
  sab : rSum n d m e = (s1, s2)
  sba : rSum m e n d = (s1, s2)
  oks : rOk s1 s2 = true
  dsb : rDiff s1 s2 m e = (n, d)
  tab : rTimes n d m e = (p1, p2)
  tba : rTimes m e n d = (p1, p2)
  tsc : rTimes s1 s2 f g = (l1, l2)
  tac : rTimes n d f g = (u1, u2)
  tbc : rTimes m e f g = (v1, v2)
  suv : rSum u1 u2 v1 v2 = (l1, l2)
  okl : rOk l1 l2 = true
  daa : rDiff n d n d = (0, 1)
  csa : rCmp s1 s2 n d = c
  cbz : rCmp m e 0 1 = c
  inv : n ≠ 0 → ∃ i1 i2, rInv n d = (i1, i2) ∧ rTimes n d i1 i2 = (1, 1) ∧ -1000 ≤ i1 ∧ i1 ≤ 1000 ∧ -1000 ≤ i2 ∧ i2 ≤ 1000
theorem IsV.pair {n d m e p q r t : Int} (h : IsV n d p q) (k : IsV m e r t) (hx : p * t = r * q) : (n, d) = (m, e) := by
  obtain ⟨a, b⟩ := h.eq k hx; rw [a, b]
theorem one_is : IsV 1 1 1 1 := ⟨by decide, by decide, rfl⟩
theorem zero_is : IsV 0 1 0 1 := ⟨by decide, by decide, rfl⟩
theorem rat_run {n d m e f g p q r t x y : Int} (ha : SmallV n d p q) (hb : SmallV m e r t) (hc : SmallV f g x y) :
    ∃ s1 s2 p1 p2 l1 l2 u1 u2 v1 v2 c, RatRun n d m e f g s1 s2 p1 p2 l1 l2 u1 u2 v1 v2 c := by
  obtain ⟨a, a1, a2, a3, a4⟩ := ha
  obtain ⟨b, b1, b2, b3, b4⟩ := hb
  obtain ⟨k, k1, k2, k3, k4⟩ := hc
  have pt := mulB (a := p) (b := t) (A := 30) (B := 30) (by omega) (by omega)
  have rq := mulB (a := r) (b := q) (A := 30) (B := 30) (by omega) (by omega)
  have qt := mulB (a := q) (b := t) (A := 30) (B := 30) (by omega) (by omega)
  have pr := mulB (a := p) (b := r) (A := 30) (B := 30) (by omega) (by omega)
  have py := mulB (a := p) (b := y) (A := 30) (B := 30) (by omega) (by omega)
  have xq := mulB (a := x) (b := q) (A := 30) (B := 30) (by omega) (by omega)
  have qy := mulB (a := q) (b := y) (A := 30) (B := 30) (by omega) (by omega)
  have px := mulB (a := p) (b := x) (A := 30) (B := 30) (by omega) (by omega)
  have ry := mulB (a := r) (b := y) (A := 30) (B := 30) (by omega) (by omega)
  have xt := mulB (a := x) (b := t) (A := 30) (B := 30) (by omega) (by omega)
  have ty := mulB (a := t) (b := y) (A := 30) (B := 30) (by omega) (by omega)
  have rx := mulB (a := r) (b := x) (A := 30) (B := 30) (by omega) (by omega)
  have S := rSum_is a b (by omega) (by omega) (by omega) (by omega)
  have S' := rSum_is b a (by omega) (by omega) (by rw [Int.mul_comm]; omega) (by rw [Int.mul_comm]; omega)
  have sb1 := mulB (a := p * t + r * q) (b := t) (A := 1800) (B := 30) (by omega) (by omega)
  have sb2 := mulB (a := r) (b := q * t) (A := 30) (B := 900) (by omega) (by omega)
  have sb3 := mulB (a := q * t) (b := t) (A := 900) (B := 30) (by omega) (by omega)
  have sb4 := mulB (a := p * t + r * q) (b := r) (A := 1800) (B := 30) (by omega) (by omega)
  have Dsb := rDiff_is S b (by omega) (by omega) (by omega) (by omega)
  have T := rTimes_is a b (by omega) (by omega) (by omega) (by omega)
  have T' := rTimes_is b a (by omega) (by omega) (by rw [Int.mul_comm]; omega) (by rw [Int.mul_comm]; omega)
  have sc1 := mulB (a := p * t + r * q) (b := y) (A := 1800) (B := 30) (by omega) (by omega)
  have sc2 := mulB (a := x) (b := q * t) (A := 30) (B := 900) (by omega) (by omega)
  have sc3 := mulB (a := q * t) (b := y) (A := 900) (B := 30) (by omega) (by omega)
  have sc4 := mulB (a := p * t + r * q) (b := x) (A := 1800) (B := 30) (by omega) (by omega)
  have L := rTimes_is S k (by omega) (by omega) (by omega) (by omega)
  have U := rTimes_is a k (by omega) (by omega) (by omega) (by omega)
  have V := rTimes_is b k (by omega) (by omega) (by omega) (by omega)
  have uv1 := mulB (a := p * x) (b := t * y) (A := 900) (B := 900) (by omega) (by omega)
  have uv2 := mulB (a := r * x) (b := q * y) (A := 900) (B := 900) (by omega) (by omega)
  have uv3 := mulB (a := q * y) (b := t * y) (A := 900) (B := 900) (by omega) (by omega)
  have uv4 := mulB (a := p * x) (b := r * x) (A := 900) (B := 900) (by omega) (by omega)
  have R := rSum_is U V (by omega) (by omega) (by omega) (by omega)
  have pq := mulB (a := p) (b := q) (A := 30) (B := 30) (by omega) (by omega)
  have qq := mulB (a := q) (b := q) (A := 30) (B := 30) (by omega) (by omega)
  have pp := mulB (a := p) (b := p) (A := 30) (B := 30) (by omega) (by omega)
  have Z := rDiff_is a a (by omega) (by omega) (by omega) (by omega)
  refine ⟨(rSum n d m e).1, (rSum n d m e).2, (rTimes n d m e).1, (rTimes n d m e).2, (rTimes (rSum n d m e).1 (rSum n d m e).2 f g).1, (rTimes (rSum n d m e).1 (rSum n d m e).2 f g).2, (rTimes n d f g).1, (rTimes n d f g).2, (rTimes m e f g).1, (rTimes m e f g).2, r.sign, ?_⟩
  refine ⟨rfl, ?_, S.1, ?_, rfl, ?_, rfl, rfl, rfl, ?_, L.1, ?_, ?_, ?_, fun hn => ?_⟩
  · exact S'.pair S (by grind)
  · exact Dsb.pair a (by grind)
  · exact T'.pair T (by grind)
  · exact R.pair L (by grind)
  · exact Z.pair zero_is (by grind)
  · rw [S.cmp a]
    have e1 : (p * t + r * q) * q - p * (q * t) = r * (q * q) := by grind
    rw [e1, Int.sign_mul r (q * q), Int.sign_eq_one_of_pos (Int.mul_pos (by omega) (by omega)), Int.mul_one]
  · rw [b.cmp zero_is]
    have e1 : r * 1 - 0 * t = r := by omega
    rw [e1]
  · have hp : p ≠ 0 := by
      rintro rfl
      have h := a.2.2
      rw [Int.zero_mul] at h
      rcases Int.mul_eq_zero.1 h with h | h <;> omega
    have I := rInv_is a hp (by omega)
    refine ⟨(rInv n d).1, (rInv n d).2, rfl, ?_, ?_⟩
    · have hb1 : (if p < 0 then -q else q).natAbs ≤ 30 := by split <;> omega
      have m1 := mulB (a := p) (b := (p.natAbs : Int)) (A := 30) (B := 30) (by omega) (by omega)
      have m2 := mulB (a := (if p < 0 then -q else q)) (b := q) (A := 30) (B := 30) (by omega) (by omega)
      have m3 := mulB (a := q) (b := (p.natAbs : Int)) (A := 30) (B := 30) (by omega) (by omega)
      have m4 := mulB (a := p) (b := (if p < 0 then -q else q)) (A := 30) (B := 30) (by omega) (by omega)
      have P := rTimes_is a I (by omega) (by omega) (by omega) (by omega)
      refine P.pair one_is ?_
      by_cases hpn : p < 0
      · rw [if_pos hpn]
        have : (p.natAbs : Int) = -p := by omega
        rw [this]; grind
      · rw [if_neg hpn]
        have : (p.natAbs : Int) = p := by omega
        rw [this]; grind
    · have hl := I.le
      have hip := I.pos
      have : (if p < 0 then -q else q).natAbs ≤ 30 := by split <;> omega
      omega
end Go.Proofs.Ytaececpphdaciaa

namespace Go.Proofs.Ytaececpphdaciaa
open Go.RowKit Go.ChangeShapes Go.WideShapes Go.ChangeAt

theorem bounds_u8'' {n : Int} (h : (Lit.int .u8 n).wf = true) : 0 ≤ n ∧ n < 256 := by
  have e : (decide (0 ≤ n) && decide (n ≤ 255)) = true := h
  simp at e; omega
/-- A slice of bytes among the arguments. -/
theorem open_bytes {H : Type} {enc : TypeId × Value → H} {P : Program} {t e : TypeId} (ht : P.underlying t = some (.slice e)) (he : P.underlying e = some (.int .u8)) (hc : P.cellsOf e = 1)
    {W : World} {a0 : Option Addr} {len cap : Nat} {d : DataW H} {p : List MemPlace} (h : DataW.Trod enc P W 0 (fun _ => true) true t (.slice a0 len cap) d p) : BytesAt W (.slice a0 len cap) len := by
  obtain ⟨fuel, hf⟩ := h
  rcases open_ints ht he hc hf with ⟨hcs, _⟩ | ⟨a, len', cap', zs, hcs, _, hl, hm, hz, _, hcell, hws⟩
  · simp [Value.cells] at hcs
    obtain ⟨rfl, rfl, rfl⟩ := hcs
    exact ⟨by omega, .inl ⟨rfl, none, 0, rfl⟩⟩
  · simp [Value.cells] at hcs
    obtain ⟨rfl, rfl, rfl⟩ := hcs
    simp only [if_true] at hz
    unfold maxLen at hm
    refine ⟨by omega, ?_⟩
    by_cases hl0 : len = 0
    · subst hl0; exact .inl ⟨rfl, some a, cap, rfl⟩
    · obtain ⟨b, off, spot⟩ := a
      have hspot : spot = none := by simpa [Addr.add] using World.cell?_spot (hcell 0 (by omega))
      subst hspot
      refine .inr ⟨b, off, cap, rfl, fun k hk => ?_⟩
      have h1 := hcell k (by omega)
      rw [add_plain] at h1
      have h2 := hws (zs.getD k 0) (by rw [List.getD_eq_getElem?_getD, List.getElem?_eq_getElem (show k < zs.length by omega)]; exact List.getElem_mem _)
      have h3 : 0 ≤ zs.getD k 0 ∧ zs.getD k 0 < 256 := bounds_u8'' h2
      refine ⟨UInt8.ofNat (zs.getD k 0).toNat, ?_⟩
      rw [h1, UInt8.toNat_ofNat']
      congr 2; omega
theorem BytesAt.on {w w' : World} {v : Value} {n : Nat} (h : BytesAt w v n) (hB : Below w.heap.size w w') : BytesAt w' v n := h.later hB (code_low h)

end Go.Proofs.Ytaececpphdaciaa
