/-
  ParseRatio, in the model and in the program.
-/
import Derived.Test.YtlggmlojmdaggaaDoorSlash
import Derived.Test.YtlggmlojmdaggaaDoorShelf
namespace Go.Proofs.YtlggmlojmdaggaaDoor
open Go.RowKit

/-- What the program's parsing wants of the library's variables. -/
def Env (w : World) : Prop := ∃ tp p tp' p', Lib.TabIs Tryd.prog w "internal/strconv.uint64pow10" .u64 Lib.pow10Tab ∧ w.var? Tryd.prog "strconv.ErrSyntax" = some #[.iface tp p] ∧ w.var? Tryd.prog "strconv.ErrRange" = some #[.iface tp' p']
theorem Env.on {w w' : World} (e : Env w) (h : Below w.heap.size w w') : Env w' := by
  obtain ⟨tp, p, tp', p', a, b, c⟩ := e
  exact ⟨tp, p, tp', p', tabIs_below h gPow (tabIs_lt gPow a) a, var_below h gSyntax b, var_below h gRange c⟩
theorem Env.tab {w : World} (e : Env w) : Lib.TabIs Tryd.prog w "internal/strconv.uint64pow10" .u64 Lib.pow10Tab := by
  obtain ⟨tp, p, tp', p', a, b, c⟩ := e; exact a
theorem impl_parse_at (t : ByteArray) (n : Int) (x : Bool) (w : World) (h : Hid (parseM t.data.toList = (n, x))) (ht : t.size ≤ 1048576) (e : Env w) :
    Calls Tryd.prog 18 #[.string t] w fun e w' => e = .returned (.tuple #[.int .i64 n, .bool x]) ∧ Below w.heap.size w w' := by
  obtain ⟨tp, p, tp', p', a, b, c⟩ := e
  have := impl_parseInt t (by omega) w a tp p b tp' p' c
  rw [h.out] at this
  exact this
theorem spec_parse_at (t : ByteArray) (n : Int) (x : Bool) (w : World) (h : Hid (parseM t.data.toList = (n, x))) (ht : t.size ≤ 1048576) :
    Calls Tryd.prog 16 #[.string t] w fun e w' => e = .returned (.tuple #[.int .i64 n, .bool x]) ∧ Below w.heap.size w w' := by
  have := spec_parseInt t w (by unfold maxLen; omega)
  rw [h.out] at this
  exact this
theorem cut_at (s : ByteArray) (a b : List UInt8) (f : Bool) (m : Int) (w : World) (h : Hid (Lib.cut s.data.toList [47] = (a, b, f))) (hs : s.size ≤ 1048576) (hm : w.cell? ⟨0, 0, none⟩ = some (.int .i64 m)) :
    Calls Tryd.prog 17 #[.string s, .string ⟨#[47]⟩] w fun e w' => e = .returned (.tuple #[.string ⟨a.toArray⟩, .string ⟨b.toArray⟩, .bool f]) ∧ ∃ n, w' = w.drewN n := by
  have := Tryd.strings_Cut s ⟨#[47]⟩ m w (by omega) hm
  rw [show (ByteArray.mk #[47]).data.toList = [47] from rfl, h.out] at this
  exact this
theorem ret_ratio {n d n' d' : Int} {x x' : Bool} (h : (n, d, x) = (n', d', x')) : Ending.returned (.tuple #[.agg #[.int .i64 n, .int .i64 d], .bool x]) = .returned (.tuple #[.agg #[.int .i64 n', .int .i64 d'], .bool x']) := by
  injection h with h1 h2; injection h2 with h2 h3; rw [h1, h2, h3]
theorem size_mk (l : List UInt8) : (⟨l.toArray⟩ : ByteArray).size = l.length := by show l.toArray.size = _; simp
theorem cut_len (l a b : List UInt8) (f : Bool) (h : Lib.cut l [47] = (a, b, f)) : a.length ≤ l.length ∧ b.length ≤ l.length := by
  by_cases hm : (47 : UInt8) ∈ l
  · obtain ⟨p, q, rfl, hp⟩ := first_slash l hm
    rw [cutL_hit p q hp] at h
    injection h with h1 h2; injection h2 with h2 h3
    subst h1 h2; simp; omega
  · rw [cutL_none l hm] at h
    injection h with h1 h2; injection h2 with h2 h3
    subst h1 h2; simp

set_option maxHeartbeats 3200000 in
theorem impl_pR_hit (s : ByteArray) (w : World) (hs : s.size ≤ 1048576) (m : Int) (hm : w.cell? ⟨0, 0, none⟩ = some (.int .i64 m)) (hg : 0 < w.heap.size) (hE : Env w) (a b : List UInt8) (hc : Hid (Lib.cut s.data.toList [47] = (a, b, true))) :
    Calls Tryd.prog 9 #[.string s] w fun e w' => e = .returned (.tuple #[.agg #[.int .i64 (pR s.data.toList).1, .int .i64 (pR s.data.toList).2.1], .bool (pR s.data.toList).2.2]) ∧ Below w.heap.size w w' := by
  obtain ⟨n, x, ha⟩ : ∃ n x, parseM a = (n, x) := ⟨_, _, rfl⟩
  obtain ⟨d, y, hb⟩ : ∃ d y, parseM b = (d, y) := ⟨_, _, rfl⟩
  have hP := pR_eq (l := s.data.toList) (a := a) (b := b) (by rw [hc.out]) (by rw [hc.out]; rfl) ha hb
  obtain ⟨la, lb⟩ := cut_len _ _ _ _ hc.out
  rw [size_eq s] at la lb
  have hn := parseM_range a
  have hd := parseM_range b
  rw [ha] at hn
  rw [hb] at hd
  obtain ⟨n0, n1⟩ := hn
  obtain ⟨d0, d1⟩ := hd
  have HA : Hid (parseM (⟨a.toArray⟩ : ByteArray).data.toList = (n, x)) := Lib.hid ha
  have HB : Hid (parseM (⟨b.toArray⟩ : ByteArray).data.toList = (d, y)) := Lib.hid hb
  clear ha hb
  have sa : (⟨a.toArray⟩ : ByteArray).size ≤ 1048576 := by rw [size_mk]; omega
  have sb : (⟨b.toArray⟩ : ByteArray).size ≤ 1048576 := by rw [size_mk]; omega
  clear la lb
  cases x with
  | false =>
    have HP := Lib.hid (hP.trans (if_neg (by simp)))
    clear hP
    go_enter Tryd.func9, Tryd.ntmps9
    go_wp2_with fail
    refine (cut_at s a b true m _ hc hs (by rw [World.cell?_alloc_past _ _ _ hg]; exact hm)).mono ?_
    rintro e w1 ⟨rfl, k, rfl⟩
    go_wp2_with fail
    refine (impl_parse_at _ n _ _ HA sa (hE.on (by (repeat (first | exact Below.refl _ _ | (refine Below.setCell ?_ (by (first | exact Nat.le_refl _ | omega | (simp <;> omega) | simp)) _) | (refine Below.alloc ?_ (by (first | exact Nat.le_refl _ | omega | (simp <;> omega) | simp)) _) | (refine below_draws ?_ _)))))).mono ?_
    rintro e w2 ⟨rfl, B2⟩
    obtain ⟨hc2, hf2⟩ := bcell B2
    have S2 := B2.size
    try simp at S2
    try (have _L2w : w.heap.size < w2.heap.size := by omega)
    have _M2w : w.heap.size ≤ w2.heap.size := by omega
    try (have _P2w_1 : w.heap.size + 1 < w2.heap.size := by omega)
    try (have _P2w_2 : w.heap.size + 1 + 1 < w2.heap.size := by omega)
    try (have _P2w_3 : w.heap.size + 1 + 1 + 1 < w2.heap.size := by omega)
    have _ : w2.cell? ⟨w.heap.size, 0, none⟩ = some (.int .i64 0) := by rw [hc2 (w.heap.size) 0 (by first | omega | (simp; done) | (simp; omega))]; first | assumption | (simp; done) | simp [go_sem, *]
    have _ : w2.frozen? ⟨w.heap.size, 0, none⟩ = false := by rw [hf2 (w.heap.size) 0 (by first | omega | (simp; done) | (simp; omega))]; first | assumption | (simp; done) | simp [go_sem, *]
    have _ : w2.cell? ⟨w.heap.size, 1, none⟩ = some (.int .i64 0) := by rw [hc2 (w.heap.size) 1 (by first | omega | (simp; done) | (simp; omega))]; first | assumption | (simp; done) | simp [go_sem, *]
    have _ : w2.frozen? ⟨w.heap.size, 1, none⟩ = false := by rw [hf2 (w.heap.size) 1 (by first | omega | (simp; done) | (simp; omega))]; first | assumption | (simp; done) | simp [go_sem, *]
    clear hc2 hf2
    go_wp2_with fail
    refine (impl_parse_at _ d _ _ HB sb (hE.on (by (repeat (first | exact Below.refl _ _ | (refine Below.setCell ?_ (by (first | exact Nat.le_refl _ | omega | (simp <;> omega) | simp)) _) | (refine Below.alloc ?_ (by (first | exact Nat.le_refl _ | omega | (simp <;> omega) | simp)) _) | (refine below_draws ?_ _) | exact B2 | (refine Below.trans ?_ (Below.mono B2 (by (first | exact Nat.le_refl _ | omega | (simp <;> omega) | simp))))))))).mono ?_
    rintro e w3 ⟨rfl, B3⟩
    obtain ⟨hc3, hf3⟩ := bcell B3
    have S3 := B3.size
    try simp at S3
    try (have _L3w : w.heap.size < w3.heap.size := by omega)
    have _M3w : w.heap.size ≤ w3.heap.size := by omega
    try (have _P3w_1 : w.heap.size + 1 < w3.heap.size := by omega)
    try (have _P3w_2 : w.heap.size + 1 + 1 < w3.heap.size := by omega)
    try (have _P3w_3 : w.heap.size + 1 + 1 + 1 < w3.heap.size := by omega)
    try (have _L3w2 : w2.heap.size < w3.heap.size := by omega)
    have _M3w2 : w2.heap.size ≤ w3.heap.size := by omega
    try (have _P3w2_1 : w2.heap.size + 1 < w3.heap.size := by omega)
    try (have _P3w2_2 : w2.heap.size + 1 + 1 < w3.heap.size := by omega)
    try (have _P3w2_3 : w2.heap.size + 1 + 1 + 1 < w3.heap.size := by omega)
    have _ : w3.cell? ⟨w.heap.size, 0, none⟩ = some (.int .i64 0) := by rw [hc3 (w.heap.size) 0 (by first | omega | (simp; done) | (simp; omega))]; first | assumption | (simp; done) | simp [go_sem, *]
    have _ : w3.frozen? ⟨w.heap.size, 0, none⟩ = false := by rw [hf3 (w.heap.size) 0 (by first | omega | (simp; done) | (simp; omega))]; first | assumption | (simp; done) | simp [go_sem, *]
    have _ : w3.cell? ⟨w.heap.size, 1, none⟩ = some (.int .i64 0) := by rw [hc3 (w.heap.size) 1 (by first | omega | (simp; done) | (simp; omega))]; first | assumption | (simp; done) | simp [go_sem, *]
    have _ : w3.frozen? ⟨w.heap.size, 1, none⟩ = false := by rw [hf3 (w.heap.size) 1 (by first | omega | (simp; done) | (simp; omega))]; first | assumption | (simp; done) | simp [go_sem, *]
    clear hc3 hf3
    go_wp2
    exact bodyPost_ret (v := (.tuple #[.agg #[.int .i64 0, .int .i64 0], .bool false])) (by simp (maxDischargeDepth := 8) [results, Tryd.results9, go_sem, *]) rfl ⟨ret_ratio HP.out.symm, by (repeat (first | exact Below.refl _ _ | (refine Below.setCell ?_ (by (first | exact Nat.le_refl _ | omega | (simp <;> omega) | simp)) _) | (refine Below.alloc ?_ (by (first | exact Nat.le_refl _ | omega | (simp <;> omega) | simp)) _) | (refine below_draws ?_ _) | exact B2 | (refine Below.trans ?_ (Below.mono B2 (by (first | exact Nat.le_refl _ | omega | (simp <;> omega) | simp)))) | exact B3 | (refine Below.trans ?_ (Below.mono B3 (by (first | exact Nat.le_refl _ | omega | (simp <;> omega) | simp))))))⟩
  | true =>
    cases y with
    | false =>
      have HP := Lib.hid (hP.trans (if_neg (by simp)))
      clear hP
      go_enter Tryd.func9, Tryd.ntmps9
      go_wp2_with fail
      refine (cut_at s a b true m _ hc hs (by rw [World.cell?_alloc_past _ _ _ hg]; exact hm)).mono ?_
      rintro e w1 ⟨rfl, k, rfl⟩
      go_wp2_with fail
      refine (impl_parse_at _ n _ _ HA sa (hE.on (by (repeat (first | exact Below.refl _ _ | (refine Below.setCell ?_ (by (first | exact Nat.le_refl _ | omega | (simp <;> omega) | simp)) _) | (refine Below.alloc ?_ (by (first | exact Nat.le_refl _ | omega | (simp <;> omega) | simp)) _) | (refine below_draws ?_ _)))))).mono ?_
      rintro e w2 ⟨rfl, B2⟩
      obtain ⟨hc2, hf2⟩ := bcell B2
      have S2 := B2.size
      try simp at S2
      try (have _L2w : w.heap.size < w2.heap.size := by omega)
      have _M2w : w.heap.size ≤ w2.heap.size := by omega
      try (have _P2w_1 : w.heap.size + 1 < w2.heap.size := by omega)
      try (have _P2w_2 : w.heap.size + 1 + 1 < w2.heap.size := by omega)
      try (have _P2w_3 : w.heap.size + 1 + 1 + 1 < w2.heap.size := by omega)
      have _ : w2.cell? ⟨w.heap.size, 0, none⟩ = some (.int .i64 0) := by rw [hc2 (w.heap.size) 0 (by first | omega | (simp; done) | (simp; omega))]; first | assumption | (simp; done) | simp [go_sem, *]
      have _ : w2.frozen? ⟨w.heap.size, 0, none⟩ = false := by rw [hf2 (w.heap.size) 0 (by first | omega | (simp; done) | (simp; omega))]; first | assumption | (simp; done) | simp [go_sem, *]
      have _ : w2.cell? ⟨w.heap.size, 1, none⟩ = some (.int .i64 0) := by rw [hc2 (w.heap.size) 1 (by first | omega | (simp; done) | (simp; omega))]; first | assumption | (simp; done) | simp [go_sem, *]
      have _ : w2.frozen? ⟨w.heap.size, 1, none⟩ = false := by rw [hf2 (w.heap.size) 1 (by first | omega | (simp; done) | (simp; omega))]; first | assumption | (simp; done) | simp [go_sem, *]
      clear hc2 hf2
      go_wp2_with fail
      refine (impl_parse_at _ d _ _ HB sb (hE.on (by (repeat (first | exact Below.refl _ _ | (refine Below.setCell ?_ (by (first | exact Nat.le_refl _ | omega | (simp <;> omega) | simp)) _) | (refine Below.alloc ?_ (by (first | exact Nat.le_refl _ | omega | (simp <;> omega) | simp)) _) | (refine below_draws ?_ _) | exact B2 | (refine Below.trans ?_ (Below.mono B2 (by (first | exact Nat.le_refl _ | omega | (simp <;> omega) | simp))))))))).mono ?_
      rintro e w3 ⟨rfl, B3⟩
      obtain ⟨hc3, hf3⟩ := bcell B3
      have S3 := B3.size
      try simp at S3
      try (have _L3w : w.heap.size < w3.heap.size := by omega)
      have _M3w : w.heap.size ≤ w3.heap.size := by omega
      try (have _P3w_1 : w.heap.size + 1 < w3.heap.size := by omega)
      try (have _P3w_2 : w.heap.size + 1 + 1 < w3.heap.size := by omega)
      try (have _P3w_3 : w.heap.size + 1 + 1 + 1 < w3.heap.size := by omega)
      try (have _L3w2 : w2.heap.size < w3.heap.size := by omega)
      have _M3w2 : w2.heap.size ≤ w3.heap.size := by omega
      try (have _P3w2_1 : w2.heap.size + 1 < w3.heap.size := by omega)
      try (have _P3w2_2 : w2.heap.size + 1 + 1 < w3.heap.size := by omega)
      try (have _P3w2_3 : w2.heap.size + 1 + 1 + 1 < w3.heap.size := by omega)
      have _ : w3.cell? ⟨w.heap.size, 0, none⟩ = some (.int .i64 0) := by rw [hc3 (w.heap.size) 0 (by first | omega | (simp; done) | (simp; omega))]; first | assumption | (simp; done) | simp [go_sem, *]
      have _ : w3.frozen? ⟨w.heap.size, 0, none⟩ = false := by rw [hf3 (w.heap.size) 0 (by first | omega | (simp; done) | (simp; omega))]; first | assumption | (simp; done) | simp [go_sem, *]
      have _ : w3.cell? ⟨w.heap.size, 1, none⟩ = some (.int .i64 0) := by rw [hc3 (w.heap.size) 1 (by first | omega | (simp; done) | (simp; omega))]; first | assumption | (simp; done) | simp [go_sem, *]
      have _ : w3.frozen? ⟨w.heap.size, 1, none⟩ = false := by rw [hf3 (w.heap.size) 1 (by first | omega | (simp; done) | (simp; omega))]; first | assumption | (simp; done) | simp [go_sem, *]
      clear hc3 hf3
      go_wp2
      exact bodyPost_ret (v := (.tuple #[.agg #[.int .i64 0, .int .i64 0], .bool false])) (by simp (maxDischargeDepth := 8) [results, Tryd.results9, go_sem, *]) rfl ⟨ret_ratio HP.out.symm, by (repeat (first | exact Below.refl _ _ | (refine Below.setCell ?_ (by (first | exact Nat.le_refl _ | omega | (simp <;> omega) | simp)) _) | (refine Below.alloc ?_ (by (first | exact Nat.le_refl _ | omega | (simp <;> omega) | simp)) _) | (refine below_draws ?_ _) | exact B2 | (refine Below.trans ?_ (Below.mono B2 (by (first | exact Nat.le_refl _ | omega | (simp <;> omega) | simp)))) | exact B3 | (refine Below.trans ?_ (Below.mono B3 (by (first | exact Nat.le_refl _ | omega | (simp <;> omega) | simp))))))⟩
    | true =>
      by_cases hf : fmtR n d = s.data.toList
      · have HP := Lib.hid (hP.trans (if_pos ⟨rfl, rfl, hf⟩))
        have hq := str_eq_of _ s hf
        clear hP hf
        go_enter Tryd.func9, Tryd.ntmps9
        go_wp2_with fail
        refine (cut_at s a b true m _ hc hs (by rw [World.cell?_alloc_past _ _ _ hg]; exact hm)).mono ?_
        rintro e w1 ⟨rfl, k, rfl⟩
        go_wp2_with fail
        refine (impl_parse_at _ n _ _ HA sa (hE.on (by (repeat (first | exact Below.refl _ _ | (refine Below.setCell ?_ (by (first | exact Nat.le_refl _ | omega | (simp <;> omega) | simp)) _) | (refine Below.alloc ?_ (by (first | exact Nat.le_refl _ | omega | (simp <;> omega) | simp)) _) | (refine below_draws ?_ _)))))).mono ?_
        rintro e w2 ⟨rfl, B2⟩
        obtain ⟨hc2, hf2⟩ := bcell B2
        have S2 := B2.size
        try simp at S2
        try (have _L2w : w.heap.size < w2.heap.size := by omega)
        have _M2w : w.heap.size ≤ w2.heap.size := by omega
        try (have _P2w_1 : w.heap.size + 1 < w2.heap.size := by omega)
        try (have _P2w_2 : w.heap.size + 1 + 1 < w2.heap.size := by omega)
        try (have _P2w_3 : w.heap.size + 1 + 1 + 1 < w2.heap.size := by omega)
        have _ : w2.cell? ⟨w.heap.size, 0, none⟩ = some (.int .i64 0) := by rw [hc2 (w.heap.size) 0 (by first | omega | (simp; done) | (simp; omega))]; first | assumption | (simp; done) | simp [go_sem, *]
        have _ : w2.frozen? ⟨w.heap.size, 0, none⟩ = false := by rw [hf2 (w.heap.size) 0 (by first | omega | (simp; done) | (simp; omega))]; first | assumption | (simp; done) | simp [go_sem, *]
        have _ : w2.cell? ⟨w.heap.size, 1, none⟩ = some (.int .i64 0) := by rw [hc2 (w.heap.size) 1 (by first | omega | (simp; done) | (simp; omega))]; first | assumption | (simp; done) | simp [go_sem, *]
        have _ : w2.frozen? ⟨w.heap.size, 1, none⟩ = false := by rw [hf2 (w.heap.size) 1 (by first | omega | (simp; done) | (simp; omega))]; first | assumption | (simp; done) | simp [go_sem, *]
        clear hc2 hf2
        go_wp2_with fail
        refine (impl_parse_at _ d _ _ HB sb (hE.on (by (repeat (first | exact Below.refl _ _ | (refine Below.setCell ?_ (by (first | exact Nat.le_refl _ | omega | (simp <;> omega) | simp)) _) | (refine Below.alloc ?_ (by (first | exact Nat.le_refl _ | omega | (simp <;> omega) | simp)) _) | (refine below_draws ?_ _) | exact B2 | (refine Below.trans ?_ (Below.mono B2 (by (first | exact Nat.le_refl _ | omega | (simp <;> omega) | simp))))))))).mono ?_
        rintro e w3 ⟨rfl, B3⟩
        obtain ⟨hc3, hf3⟩ := bcell B3
        have S3 := B3.size
        try simp at S3
        try (have _L3w : w.heap.size < w3.heap.size := by omega)
        have _M3w : w.heap.size ≤ w3.heap.size := by omega
        try (have _P3w_1 : w.heap.size + 1 < w3.heap.size := by omega)
        try (have _P3w_2 : w.heap.size + 1 + 1 < w3.heap.size := by omega)
        try (have _P3w_3 : w.heap.size + 1 + 1 + 1 < w3.heap.size := by omega)
        try (have _L3w2 : w2.heap.size < w3.heap.size := by omega)
        have _M3w2 : w2.heap.size ≤ w3.heap.size := by omega
        try (have _P3w2_1 : w2.heap.size + 1 < w3.heap.size := by omega)
        try (have _P3w2_2 : w2.heap.size + 1 + 1 < w3.heap.size := by omega)
        try (have _P3w2_3 : w2.heap.size + 1 + 1 + 1 < w3.heap.size := by omega)
        have _ : w3.cell? ⟨w.heap.size, 0, none⟩ = some (.int .i64 0) := by rw [hc3 (w.heap.size) 0 (by first | omega | (simp; done) | (simp; omega))]; first | assumption | (simp; done) | simp [go_sem, *]
        have _ : w3.frozen? ⟨w.heap.size, 0, none⟩ = false := by rw [hf3 (w.heap.size) 0 (by first | omega | (simp; done) | (simp; omega))]; first | assumption | (simp; done) | simp [go_sem, *]
        have _ : w3.cell? ⟨w.heap.size, 1, none⟩ = some (.int .i64 0) := by rw [hc3 (w.heap.size) 1 (by first | omega | (simp; done) | (simp; omega))]; first | assumption | (simp; done) | simp [go_sem, *]
        have _ : w3.frozen? ⟨w.heap.size, 1, none⟩ = false := by rw [hf3 (w.heap.size) 1 (by first | omega | (simp; done) | (simp; omega))]; first | assumption | (simp; done) | simp [go_sem, *]
        clear hc3 hf3
        go_wp2_with fail
        refine (impl_fmtR n d _ (hE.on (by (repeat (first | exact Below.refl _ _ | (refine Below.setCell ?_ (by (first | exact Nat.le_refl _ | omega | (simp <;> omega) | simp)) _) | (refine Below.alloc ?_ (by (first | exact Nat.le_refl _ | omega | (simp <;> omega) | simp)) _) | (refine below_draws ?_ _) | exact B2 | (refine Below.trans ?_ (Below.mono B2 (by (first | exact Nat.le_refl _ | omega | (simp <;> omega) | simp)))) | exact B3 | (refine Below.trans ?_ (Below.mono B3 (by (first | exact Nat.le_refl _ | omega | (simp <;> omega) | simp)))))))).tab n0 n1 d0 d1).mono ?_
        rintro e w4 ⟨rfl, B4⟩
        obtain ⟨hc4, hf4⟩ := bcell B4
        have S4 := B4.size
        try simp at S4
        try (have _L4w : w.heap.size < w4.heap.size := by omega)
        have _M4w : w.heap.size ≤ w4.heap.size := by omega
        try (have _P4w_1 : w.heap.size + 1 < w4.heap.size := by omega)
        try (have _P4w_2 : w.heap.size + 1 + 1 < w4.heap.size := by omega)
        try (have _P4w_3 : w.heap.size + 1 + 1 + 1 < w4.heap.size := by omega)
        try (have _L4w2 : w2.heap.size < w4.heap.size := by omega)
        have _M4w2 : w2.heap.size ≤ w4.heap.size := by omega
        try (have _P4w2_1 : w2.heap.size + 1 < w4.heap.size := by omega)
        try (have _P4w2_2 : w2.heap.size + 1 + 1 < w4.heap.size := by omega)
        try (have _P4w2_3 : w2.heap.size + 1 + 1 + 1 < w4.heap.size := by omega)
        try (have _L4w3 : w3.heap.size < w4.heap.size := by omega)
        have _M4w3 : w3.heap.size ≤ w4.heap.size := by omega
        try (have _P4w3_1 : w3.heap.size + 1 < w4.heap.size := by omega)
        try (have _P4w3_2 : w3.heap.size + 1 + 1 < w4.heap.size := by omega)
        try (have _P4w3_3 : w3.heap.size + 1 + 1 + 1 < w4.heap.size := by omega)
        have _ : w4.cell? ⟨w.heap.size, 0, none⟩ = some (.int .i64 0) := by rw [hc4 (w.heap.size) 0 (by first | omega | (simp; done) | (simp; omega))]; first | assumption | (simp; done) | simp [go_sem, *]
        have _ : w4.frozen? ⟨w.heap.size, 0, none⟩ = false := by rw [hf4 (w.heap.size) 0 (by first | omega | (simp; done) | (simp; omega))]; first | assumption | (simp; done) | simp [go_sem, *]
        have _ : w4.cell? ⟨w.heap.size, 1, none⟩ = some (.int .i64 0) := by rw [hc4 (w.heap.size) 1 (by first | omega | (simp; done) | (simp; omega))]; first | assumption | (simp; done) | simp [go_sem, *]
        have _ : w4.frozen? ⟨w.heap.size, 1, none⟩ = false := by rw [hf4 (w.heap.size) 1 (by first | omega | (simp; done) | (simp; omega))]; first | assumption | (simp; done) | simp [go_sem, *]
        have _ : w4.cell? ⟨w3.heap.size, 0, none⟩ = some (.int .i64 n) := by rw [hc4 (w3.heap.size) 0 (by first | omega | (simp; done) | (simp; omega))]; first | assumption | (simp; done) | simp [go_sem, *]
        have _ : w4.frozen? ⟨w3.heap.size, 0, none⟩ = false := by rw [hf4 (w3.heap.size) 0 (by first | omega | (simp; done) | (simp; omega))]; first | assumption | (simp; done) | simp [go_sem, *]
        have _ : w4.cell? ⟨w3.heap.size, 1, none⟩ = some (.int .i64 d) := by rw [hc4 (w3.heap.size) 1 (by first | omega | (simp; done) | (simp; omega))]; first | assumption | (simp; done) | simp [go_sem, *]
        have _ : w4.frozen? ⟨w3.heap.size, 1, none⟩ = false := by rw [hf4 (w3.heap.size) 1 (by first | omega | (simp; done) | (simp; omega))]; first | assumption | (simp; done) | simp [go_sem, *]
        clear hc4 hf4
        go_wp2
        exact bodyPost_ret (v := (.tuple #[.agg #[.int .i64 n, .int .i64 d], .bool true])) (by simp (maxDischargeDepth := 8) [results, Tryd.results9, go_sem, *]) rfl ⟨ret_ratio HP.out.symm, by (repeat (first | exact Below.refl _ _ | (refine Below.setCell ?_ (by (first | exact Nat.le_refl _ | omega | (simp <;> omega) | simp)) _) | (refine Below.alloc ?_ (by (first | exact Nat.le_refl _ | omega | (simp <;> omega) | simp)) _) | (refine below_draws ?_ _) | exact B2 | (refine Below.trans ?_ (Below.mono B2 (by (first | exact Nat.le_refl _ | omega | (simp <;> omega) | simp)))) | exact B3 | (refine Below.trans ?_ (Below.mono B3 (by (first | exact Nat.le_refl _ | omega | (simp <;> omega) | simp)))) | exact B4 | (refine Below.trans ?_ (Below.mono B4 (by (first | exact Nat.le_refl _ | omega | (simp <;> omega) | simp))))))⟩
      · have HP := Lib.hid (hP.trans (if_neg (fun h => hf h.2.2)))
        have hq := str_ne_of _ s hf
        clear hP hf
        go_enter Tryd.func9, Tryd.ntmps9
        go_wp2_with fail
        refine (cut_at s a b true m _ hc hs (by rw [World.cell?_alloc_past _ _ _ hg]; exact hm)).mono ?_
        rintro e w1 ⟨rfl, k, rfl⟩
        go_wp2_with fail
        refine (impl_parse_at _ n _ _ HA sa (hE.on (by (repeat (first | exact Below.refl _ _ | (refine Below.setCell ?_ (by (first | exact Nat.le_refl _ | omega | (simp <;> omega) | simp)) _) | (refine Below.alloc ?_ (by (first | exact Nat.le_refl _ | omega | (simp <;> omega) | simp)) _) | (refine below_draws ?_ _)))))).mono ?_
        rintro e w2 ⟨rfl, B2⟩
        obtain ⟨hc2, hf2⟩ := bcell B2
        have S2 := B2.size
        try simp at S2
        try (have _L2w : w.heap.size < w2.heap.size := by omega)
        have _M2w : w.heap.size ≤ w2.heap.size := by omega
        try (have _P2w_1 : w.heap.size + 1 < w2.heap.size := by omega)
        try (have _P2w_2 : w.heap.size + 1 + 1 < w2.heap.size := by omega)
        try (have _P2w_3 : w.heap.size + 1 + 1 + 1 < w2.heap.size := by omega)
        have _ : w2.cell? ⟨w.heap.size, 0, none⟩ = some (.int .i64 0) := by rw [hc2 (w.heap.size) 0 (by first | omega | (simp; done) | (simp; omega))]; first | assumption | (simp; done) | simp [go_sem, *]
        have _ : w2.frozen? ⟨w.heap.size, 0, none⟩ = false := by rw [hf2 (w.heap.size) 0 (by first | omega | (simp; done) | (simp; omega))]; first | assumption | (simp; done) | simp [go_sem, *]
        have _ : w2.cell? ⟨w.heap.size, 1, none⟩ = some (.int .i64 0) := by rw [hc2 (w.heap.size) 1 (by first | omega | (simp; done) | (simp; omega))]; first | assumption | (simp; done) | simp [go_sem, *]
        have _ : w2.frozen? ⟨w.heap.size, 1, none⟩ = false := by rw [hf2 (w.heap.size) 1 (by first | omega | (simp; done) | (simp; omega))]; first | assumption | (simp; done) | simp [go_sem, *]
        clear hc2 hf2
        go_wp2_with fail
        refine (impl_parse_at _ d _ _ HB sb (hE.on (by (repeat (first | exact Below.refl _ _ | (refine Below.setCell ?_ (by (first | exact Nat.le_refl _ | omega | (simp <;> omega) | simp)) _) | (refine Below.alloc ?_ (by (first | exact Nat.le_refl _ | omega | (simp <;> omega) | simp)) _) | (refine below_draws ?_ _) | exact B2 | (refine Below.trans ?_ (Below.mono B2 (by (first | exact Nat.le_refl _ | omega | (simp <;> omega) | simp))))))))).mono ?_
        rintro e w3 ⟨rfl, B3⟩
        obtain ⟨hc3, hf3⟩ := bcell B3
        have S3 := B3.size
        try simp at S3
        try (have _L3w : w.heap.size < w3.heap.size := by omega)
        have _M3w : w.heap.size ≤ w3.heap.size := by omega
        try (have _P3w_1 : w.heap.size + 1 < w3.heap.size := by omega)
        try (have _P3w_2 : w.heap.size + 1 + 1 < w3.heap.size := by omega)
        try (have _P3w_3 : w.heap.size + 1 + 1 + 1 < w3.heap.size := by omega)
        try (have _L3w2 : w2.heap.size < w3.heap.size := by omega)
        have _M3w2 : w2.heap.size ≤ w3.heap.size := by omega
        try (have _P3w2_1 : w2.heap.size + 1 < w3.heap.size := by omega)
        try (have _P3w2_2 : w2.heap.size + 1 + 1 < w3.heap.size := by omega)
        try (have _P3w2_3 : w2.heap.size + 1 + 1 + 1 < w3.heap.size := by omega)
        have _ : w3.cell? ⟨w.heap.size, 0, none⟩ = some (.int .i64 0) := by rw [hc3 (w.heap.size) 0 (by first | omega | (simp; done) | (simp; omega))]; first | assumption | (simp; done) | simp [go_sem, *]
        have _ : w3.frozen? ⟨w.heap.size, 0, none⟩ = false := by rw [hf3 (w.heap.size) 0 (by first | omega | (simp; done) | (simp; omega))]; first | assumption | (simp; done) | simp [go_sem, *]
        have _ : w3.cell? ⟨w.heap.size, 1, none⟩ = some (.int .i64 0) := by rw [hc3 (w.heap.size) 1 (by first | omega | (simp; done) | (simp; omega))]; first | assumption | (simp; done) | simp [go_sem, *]
        have _ : w3.frozen? ⟨w.heap.size, 1, none⟩ = false := by rw [hf3 (w.heap.size) 1 (by first | omega | (simp; done) | (simp; omega))]; first | assumption | (simp; done) | simp [go_sem, *]
        clear hc3 hf3
        go_wp2_with fail
        refine (impl_fmtR n d _ (hE.on (by (repeat (first | exact Below.refl _ _ | (refine Below.setCell ?_ (by (first | exact Nat.le_refl _ | omega | (simp <;> omega) | simp)) _) | (refine Below.alloc ?_ (by (first | exact Nat.le_refl _ | omega | (simp <;> omega) | simp)) _) | (refine below_draws ?_ _) | exact B2 | (refine Below.trans ?_ (Below.mono B2 (by (first | exact Nat.le_refl _ | omega | (simp <;> omega) | simp)))) | exact B3 | (refine Below.trans ?_ (Below.mono B3 (by (first | exact Nat.le_refl _ | omega | (simp <;> omega) | simp)))))))).tab n0 n1 d0 d1).mono ?_
        rintro e w4 ⟨rfl, B4⟩
        obtain ⟨hc4, hf4⟩ := bcell B4
        have S4 := B4.size
        try simp at S4
        try (have _L4w : w.heap.size < w4.heap.size := by omega)
        have _M4w : w.heap.size ≤ w4.heap.size := by omega
        try (have _P4w_1 : w.heap.size + 1 < w4.heap.size := by omega)
        try (have _P4w_2 : w.heap.size + 1 + 1 < w4.heap.size := by omega)
        try (have _P4w_3 : w.heap.size + 1 + 1 + 1 < w4.heap.size := by omega)
        try (have _L4w2 : w2.heap.size < w4.heap.size := by omega)
        have _M4w2 : w2.heap.size ≤ w4.heap.size := by omega
        try (have _P4w2_1 : w2.heap.size + 1 < w4.heap.size := by omega)
        try (have _P4w2_2 : w2.heap.size + 1 + 1 < w4.heap.size := by omega)
        try (have _P4w2_3 : w2.heap.size + 1 + 1 + 1 < w4.heap.size := by omega)
        try (have _L4w3 : w3.heap.size < w4.heap.size := by omega)
        have _M4w3 : w3.heap.size ≤ w4.heap.size := by omega
        try (have _P4w3_1 : w3.heap.size + 1 < w4.heap.size := by omega)
        try (have _P4w3_2 : w3.heap.size + 1 + 1 < w4.heap.size := by omega)
        try (have _P4w3_3 : w3.heap.size + 1 + 1 + 1 < w4.heap.size := by omega)
        have _ : w4.cell? ⟨w.heap.size, 0, none⟩ = some (.int .i64 0) := by rw [hc4 (w.heap.size) 0 (by first | omega | (simp; done) | (simp; omega))]; first | assumption | (simp; done) | simp [go_sem, *]
        have _ : w4.frozen? ⟨w.heap.size, 0, none⟩ = false := by rw [hf4 (w.heap.size) 0 (by first | omega | (simp; done) | (simp; omega))]; first | assumption | (simp; done) | simp [go_sem, *]
        have _ : w4.cell? ⟨w.heap.size, 1, none⟩ = some (.int .i64 0) := by rw [hc4 (w.heap.size) 1 (by first | omega | (simp; done) | (simp; omega))]; first | assumption | (simp; done) | simp [go_sem, *]
        have _ : w4.frozen? ⟨w.heap.size, 1, none⟩ = false := by rw [hf4 (w.heap.size) 1 (by first | omega | (simp; done) | (simp; omega))]; first | assumption | (simp; done) | simp [go_sem, *]
        have _ : w4.cell? ⟨w3.heap.size, 0, none⟩ = some (.int .i64 n) := by rw [hc4 (w3.heap.size) 0 (by first | omega | (simp; done) | (simp; omega))]; first | assumption | (simp; done) | simp [go_sem, *]
        have _ : w4.frozen? ⟨w3.heap.size, 0, none⟩ = false := by rw [hf4 (w3.heap.size) 0 (by first | omega | (simp; done) | (simp; omega))]; first | assumption | (simp; done) | simp [go_sem, *]
        have _ : w4.cell? ⟨w3.heap.size, 1, none⟩ = some (.int .i64 d) := by rw [hc4 (w3.heap.size) 1 (by first | omega | (simp; done) | (simp; omega))]; first | assumption | (simp; done) | simp [go_sem, *]
        have _ : w4.frozen? ⟨w3.heap.size, 1, none⟩ = false := by rw [hf4 (w3.heap.size) 1 (by first | omega | (simp; done) | (simp; omega))]; first | assumption | (simp; done) | simp [go_sem, *]
        clear hc4 hf4
        go_wp2
        exact bodyPost_ret (v := (.tuple #[.agg #[.int .i64 0, .int .i64 0], .bool false])) (by simp (maxDischargeDepth := 8) [results, Tryd.results9, go_sem, *]) rfl ⟨ret_ratio HP.out.symm, by (repeat (first | exact Below.refl _ _ | (refine Below.setCell ?_ (by (first | exact Nat.le_refl _ | omega | (simp <;> omega) | simp)) _) | (refine Below.alloc ?_ (by (first | exact Nat.le_refl _ | omega | (simp <;> omega) | simp)) _) | (refine below_draws ?_ _) | exact B2 | (refine Below.trans ?_ (Below.mono B2 (by (first | exact Nat.le_refl _ | omega | (simp <;> omega) | simp)))) | exact B3 | (refine Below.trans ?_ (Below.mono B3 (by (first | exact Nat.le_refl _ | omega | (simp <;> omega) | simp)))) | exact B4 | (refine Below.trans ?_ (Below.mono B4 (by (first | exact Nat.le_refl _ | omega | (simp <;> omega) | simp))))))⟩

set_option maxHeartbeats 3200000 in
theorem impl_pR_miss (s : ByteArray) (w : World) (hs : s.size ≤ 1048576) (m : Int) (hm : w.cell? ⟨0, 0, none⟩ = some (.int .i64 m)) (hg : 0 < w.heap.size) (hE : Env w) (a b : List UInt8) (hc : Hid (Lib.cut s.data.toList [47] = (a, b, false))) :
    Calls Tryd.prog 9 #[.string s] w fun e w' => e = .returned (.tuple #[.agg #[.int .i64 (pR s.data.toList).1, .int .i64 (pR s.data.toList).2.1], .bool (pR s.data.toList).2.2]) ∧ Below w.heap.size w w' := by
  obtain ⟨n, x, ha⟩ : ∃ n x, parseM a = (n, x) := ⟨_, _, rfl⟩
  obtain ⟨d, y, hb⟩ : ∃ d y, parseM [49] = (d, y) := ⟨_, _, rfl⟩
  have hP := pR_eq (l := s.data.toList) (a := a) (b := [49]) (by rw [hc.out]) (by rw [hc.out]; rfl) ha hb
  obtain ⟨la, lb⟩ := cut_len _ _ _ _ hc.out
  rw [size_eq s] at la lb
  have hn := parseM_range a
  have hd := parseM_range [49]
  rw [ha] at hn
  rw [hb] at hd
  obtain ⟨n0, n1⟩ := hn
  obtain ⟨d0, d1⟩ := hd
  have HA : Hid (parseM (⟨a.toArray⟩ : ByteArray).data.toList = (n, x)) := Lib.hid ha
  have HB : Hid (parseM (⟨#[49]⟩ : ByteArray).data.toList = (d, y)) := Lib.hid hb
  clear ha hb
  have sa : (⟨a.toArray⟩ : ByteArray).size ≤ 1048576 := by rw [size_mk]; omega
  have sb : (⟨#[49]⟩ : ByteArray).size ≤ 1048576 := by decide
  clear la lb
  cases x with
  | false =>
    have HP := Lib.hid (hP.trans (if_neg (by simp)))
    clear hP
    go_enter Tryd.func9, Tryd.ntmps9
    go_wp2_with fail
    refine (cut_at s a b false m _ hc hs (by rw [World.cell?_alloc_past _ _ _ hg]; exact hm)).mono ?_
    rintro e w1 ⟨rfl, k, rfl⟩
    go_wp2_with fail
    refine (impl_parse_at _ n _ _ HA sa (hE.on (by (repeat (first | exact Below.refl _ _ | (refine Below.setCell ?_ (by (first | exact Nat.le_refl _ | omega | (simp <;> omega) | simp)) _) | (refine Below.alloc ?_ (by (first | exact Nat.le_refl _ | omega | (simp <;> omega) | simp)) _) | (refine below_draws ?_ _)))))).mono ?_
    rintro e w2 ⟨rfl, B2⟩
    obtain ⟨hc2, hf2⟩ := bcell B2
    have S2 := B2.size
    try simp at S2
    try (have _L2w : w.heap.size < w2.heap.size := by omega)
    have _M2w : w.heap.size ≤ w2.heap.size := by omega
    try (have _P2w_1 : w.heap.size + 1 < w2.heap.size := by omega)
    try (have _P2w_2 : w.heap.size + 1 + 1 < w2.heap.size := by omega)
    try (have _P2w_3 : w.heap.size + 1 + 1 + 1 < w2.heap.size := by omega)
    have _ : w2.cell? ⟨w.heap.size, 0, none⟩ = some (.int .i64 0) := by rw [hc2 (w.heap.size) 0 (by first | omega | (simp; done) | (simp; omega))]; first | assumption | (simp; done) | simp [go_sem, *]
    have _ : w2.frozen? ⟨w.heap.size, 0, none⟩ = false := by rw [hf2 (w.heap.size) 0 (by first | omega | (simp; done) | (simp; omega))]; first | assumption | (simp; done) | simp [go_sem, *]
    have _ : w2.cell? ⟨w.heap.size, 1, none⟩ = some (.int .i64 0) := by rw [hc2 (w.heap.size) 1 (by first | omega | (simp; done) | (simp; omega))]; first | assumption | (simp; done) | simp [go_sem, *]
    have _ : w2.frozen? ⟨w.heap.size, 1, none⟩ = false := by rw [hf2 (w.heap.size) 1 (by first | omega | (simp; done) | (simp; omega))]; first | assumption | (simp; done) | simp [go_sem, *]
    clear hc2 hf2
    go_wp2_with fail
    refine (impl_parse_at _ d _ _ HB sb (hE.on (by (repeat (first | exact Below.refl _ _ | (refine Below.setCell ?_ (by (first | exact Nat.le_refl _ | omega | (simp <;> omega) | simp)) _) | (refine Below.alloc ?_ (by (first | exact Nat.le_refl _ | omega | (simp <;> omega) | simp)) _) | (refine below_draws ?_ _) | exact B2 | (refine Below.trans ?_ (Below.mono B2 (by (first | exact Nat.le_refl _ | omega | (simp <;> omega) | simp))))))))).mono ?_
    rintro e w3 ⟨rfl, B3⟩
    obtain ⟨hc3, hf3⟩ := bcell B3
    have S3 := B3.size
    try simp at S3
    try (have _L3w : w.heap.size < w3.heap.size := by omega)
    have _M3w : w.heap.size ≤ w3.heap.size := by omega
    try (have _P3w_1 : w.heap.size + 1 < w3.heap.size := by omega)
    try (have _P3w_2 : w.heap.size + 1 + 1 < w3.heap.size := by omega)
    try (have _P3w_3 : w.heap.size + 1 + 1 + 1 < w3.heap.size := by omega)
    try (have _L3w2 : w2.heap.size < w3.heap.size := by omega)
    have _M3w2 : w2.heap.size ≤ w3.heap.size := by omega
    try (have _P3w2_1 : w2.heap.size + 1 < w3.heap.size := by omega)
    try (have _P3w2_2 : w2.heap.size + 1 + 1 < w3.heap.size := by omega)
    try (have _P3w2_3 : w2.heap.size + 1 + 1 + 1 < w3.heap.size := by omega)
    have _ : w3.cell? ⟨w.heap.size, 0, none⟩ = some (.int .i64 0) := by rw [hc3 (w.heap.size) 0 (by first | omega | (simp; done) | (simp; omega))]; first | assumption | (simp; done) | simp [go_sem, *]
    have _ : w3.frozen? ⟨w.heap.size, 0, none⟩ = false := by rw [hf3 (w.heap.size) 0 (by first | omega | (simp; done) | (simp; omega))]; first | assumption | (simp; done) | simp [go_sem, *]
    have _ : w3.cell? ⟨w.heap.size, 1, none⟩ = some (.int .i64 0) := by rw [hc3 (w.heap.size) 1 (by first | omega | (simp; done) | (simp; omega))]; first | assumption | (simp; done) | simp [go_sem, *]
    have _ : w3.frozen? ⟨w.heap.size, 1, none⟩ = false := by rw [hf3 (w.heap.size) 1 (by first | omega | (simp; done) | (simp; omega))]; first | assumption | (simp; done) | simp [go_sem, *]
    clear hc3 hf3
    go_wp2
    exact bodyPost_ret (v := (.tuple #[.agg #[.int .i64 0, .int .i64 0], .bool false])) (by simp (maxDischargeDepth := 8) [results, Tryd.results9, go_sem, *]) rfl ⟨ret_ratio HP.out.symm, by (repeat (first | exact Below.refl _ _ | (refine Below.setCell ?_ (by (first | exact Nat.le_refl _ | omega | (simp <;> omega) | simp)) _) | (refine Below.alloc ?_ (by (first | exact Nat.le_refl _ | omega | (simp <;> omega) | simp)) _) | (refine below_draws ?_ _) | exact B2 | (refine Below.trans ?_ (Below.mono B2 (by (first | exact Nat.le_refl _ | omega | (simp <;> omega) | simp)))) | exact B3 | (refine Below.trans ?_ (Below.mono B3 (by (first | exact Nat.le_refl _ | omega | (simp <;> omega) | simp))))))⟩
  | true =>
    cases y with
    | false =>
      have HP := Lib.hid (hP.trans (if_neg (by simp)))
      clear hP
      go_enter Tryd.func9, Tryd.ntmps9
      go_wp2_with fail
      refine (cut_at s a b false m _ hc hs (by rw [World.cell?_alloc_past _ _ _ hg]; exact hm)).mono ?_
      rintro e w1 ⟨rfl, k, rfl⟩
      go_wp2_with fail
      refine (impl_parse_at _ n _ _ HA sa (hE.on (by (repeat (first | exact Below.refl _ _ | (refine Below.setCell ?_ (by (first | exact Nat.le_refl _ | omega | (simp <;> omega) | simp)) _) | (refine Below.alloc ?_ (by (first | exact Nat.le_refl _ | omega | (simp <;> omega) | simp)) _) | (refine below_draws ?_ _)))))).mono ?_
      rintro e w2 ⟨rfl, B2⟩
      obtain ⟨hc2, hf2⟩ := bcell B2
      have S2 := B2.size
      try simp at S2
      try (have _L2w : w.heap.size < w2.heap.size := by omega)
      have _M2w : w.heap.size ≤ w2.heap.size := by omega
      try (have _P2w_1 : w.heap.size + 1 < w2.heap.size := by omega)
      try (have _P2w_2 : w.heap.size + 1 + 1 < w2.heap.size := by omega)
      try (have _P2w_3 : w.heap.size + 1 + 1 + 1 < w2.heap.size := by omega)
      have _ : w2.cell? ⟨w.heap.size, 0, none⟩ = some (.int .i64 0) := by rw [hc2 (w.heap.size) 0 (by first | omega | (simp; done) | (simp; omega))]; first | assumption | (simp; done) | simp [go_sem, *]
      have _ : w2.frozen? ⟨w.heap.size, 0, none⟩ = false := by rw [hf2 (w.heap.size) 0 (by first | omega | (simp; done) | (simp; omega))]; first | assumption | (simp; done) | simp [go_sem, *]
      have _ : w2.cell? ⟨w.heap.size, 1, none⟩ = some (.int .i64 0) := by rw [hc2 (w.heap.size) 1 (by first | omega | (simp; done) | (simp; omega))]; first | assumption | (simp; done) | simp [go_sem, *]
      have _ : w2.frozen? ⟨w.heap.size, 1, none⟩ = false := by rw [hf2 (w.heap.size) 1 (by first | omega | (simp; done) | (simp; omega))]; first | assumption | (simp; done) | simp [go_sem, *]
      clear hc2 hf2
      go_wp2_with fail
      refine (impl_parse_at _ d _ _ HB sb (hE.on (by (repeat (first | exact Below.refl _ _ | (refine Below.setCell ?_ (by (first | exact Nat.le_refl _ | omega | (simp <;> omega) | simp)) _) | (refine Below.alloc ?_ (by (first | exact Nat.le_refl _ | omega | (simp <;> omega) | simp)) _) | (refine below_draws ?_ _) | exact B2 | (refine Below.trans ?_ (Below.mono B2 (by (first | exact Nat.le_refl _ | omega | (simp <;> omega) | simp))))))))).mono ?_
      rintro e w3 ⟨rfl, B3⟩
      obtain ⟨hc3, hf3⟩ := bcell B3
      have S3 := B3.size
      try simp at S3
      try (have _L3w : w.heap.size < w3.heap.size := by omega)
      have _M3w : w.heap.size ≤ w3.heap.size := by omega
      try (have _P3w_1 : w.heap.size + 1 < w3.heap.size := by omega)
      try (have _P3w_2 : w.heap.size + 1 + 1 < w3.heap.size := by omega)
      try (have _P3w_3 : w.heap.size + 1 + 1 + 1 < w3.heap.size := by omega)
      try (have _L3w2 : w2.heap.size < w3.heap.size := by omega)
      have _M3w2 : w2.heap.size ≤ w3.heap.size := by omega
      try (have _P3w2_1 : w2.heap.size + 1 < w3.heap.size := by omega)
      try (have _P3w2_2 : w2.heap.size + 1 + 1 < w3.heap.size := by omega)
      try (have _P3w2_3 : w2.heap.size + 1 + 1 + 1 < w3.heap.size := by omega)
      have _ : w3.cell? ⟨w.heap.size, 0, none⟩ = some (.int .i64 0) := by rw [hc3 (w.heap.size) 0 (by first | omega | (simp; done) | (simp; omega))]; first | assumption | (simp; done) | simp [go_sem, *]
      have _ : w3.frozen? ⟨w.heap.size, 0, none⟩ = false := by rw [hf3 (w.heap.size) 0 (by first | omega | (simp; done) | (simp; omega))]; first | assumption | (simp; done) | simp [go_sem, *]
      have _ : w3.cell? ⟨w.heap.size, 1, none⟩ = some (.int .i64 0) := by rw [hc3 (w.heap.size) 1 (by first | omega | (simp; done) | (simp; omega))]; first | assumption | (simp; done) | simp [go_sem, *]
      have _ : w3.frozen? ⟨w.heap.size, 1, none⟩ = false := by rw [hf3 (w.heap.size) 1 (by first | omega | (simp; done) | (simp; omega))]; first | assumption | (simp; done) | simp [go_sem, *]
      clear hc3 hf3
      go_wp2
      exact bodyPost_ret (v := (.tuple #[.agg #[.int .i64 0, .int .i64 0], .bool false])) (by simp (maxDischargeDepth := 8) [results, Tryd.results9, go_sem, *]) rfl ⟨ret_ratio HP.out.symm, by (repeat (first | exact Below.refl _ _ | (refine Below.setCell ?_ (by (first | exact Nat.le_refl _ | omega | (simp <;> omega) | simp)) _) | (refine Below.alloc ?_ (by (first | exact Nat.le_refl _ | omega | (simp <;> omega) | simp)) _) | (refine below_draws ?_ _) | exact B2 | (refine Below.trans ?_ (Below.mono B2 (by (first | exact Nat.le_refl _ | omega | (simp <;> omega) | simp)))) | exact B3 | (refine Below.trans ?_ (Below.mono B3 (by (first | exact Nat.le_refl _ | omega | (simp <;> omega) | simp))))))⟩
    | true =>
      by_cases hf : fmtR n d = s.data.toList
      · have HP := Lib.hid (hP.trans (if_pos ⟨rfl, rfl, hf⟩))
        have hq := str_eq_of _ s hf
        clear hP hf
        go_enter Tryd.func9, Tryd.ntmps9
        go_wp2_with fail
        refine (cut_at s a b false m _ hc hs (by rw [World.cell?_alloc_past _ _ _ hg]; exact hm)).mono ?_
        rintro e w1 ⟨rfl, k, rfl⟩
        go_wp2_with fail
        refine (impl_parse_at _ n _ _ HA sa (hE.on (by (repeat (first | exact Below.refl _ _ | (refine Below.setCell ?_ (by (first | exact Nat.le_refl _ | omega | (simp <;> omega) | simp)) _) | (refine Below.alloc ?_ (by (first | exact Nat.le_refl _ | omega | (simp <;> omega) | simp)) _) | (refine below_draws ?_ _)))))).mono ?_
        rintro e w2 ⟨rfl, B2⟩
        obtain ⟨hc2, hf2⟩ := bcell B2
        have S2 := B2.size
        try simp at S2
        try (have _L2w : w.heap.size < w2.heap.size := by omega)
        have _M2w : w.heap.size ≤ w2.heap.size := by omega
        try (have _P2w_1 : w.heap.size + 1 < w2.heap.size := by omega)
        try (have _P2w_2 : w.heap.size + 1 + 1 < w2.heap.size := by omega)
        try (have _P2w_3 : w.heap.size + 1 + 1 + 1 < w2.heap.size := by omega)
        have _ : w2.cell? ⟨w.heap.size, 0, none⟩ = some (.int .i64 0) := by rw [hc2 (w.heap.size) 0 (by first | omega | (simp; done) | (simp; omega))]; first | assumption | (simp; done) | simp [go_sem, *]
        have _ : w2.frozen? ⟨w.heap.size, 0, none⟩ = false := by rw [hf2 (w.heap.size) 0 (by first | omega | (simp; done) | (simp; omega))]; first | assumption | (simp; done) | simp [go_sem, *]
        have _ : w2.cell? ⟨w.heap.size, 1, none⟩ = some (.int .i64 0) := by rw [hc2 (w.heap.size) 1 (by first | omega | (simp; done) | (simp; omega))]; first | assumption | (simp; done) | simp [go_sem, *]
        have _ : w2.frozen? ⟨w.heap.size, 1, none⟩ = false := by rw [hf2 (w.heap.size) 1 (by first | omega | (simp; done) | (simp; omega))]; first | assumption | (simp; done) | simp [go_sem, *]
        clear hc2 hf2
        go_wp2_with fail
        refine (impl_parse_at _ d _ _ HB sb (hE.on (by (repeat (first | exact Below.refl _ _ | (refine Below.setCell ?_ (by (first | exact Nat.le_refl _ | omega | (simp <;> omega) | simp)) _) | (refine Below.alloc ?_ (by (first | exact Nat.le_refl _ | omega | (simp <;> omega) | simp)) _) | (refine below_draws ?_ _) | exact B2 | (refine Below.trans ?_ (Below.mono B2 (by (first | exact Nat.le_refl _ | omega | (simp <;> omega) | simp))))))))).mono ?_
        rintro e w3 ⟨rfl, B3⟩
        obtain ⟨hc3, hf3⟩ := bcell B3
        have S3 := B3.size
        try simp at S3
        try (have _L3w : w.heap.size < w3.heap.size := by omega)
        have _M3w : w.heap.size ≤ w3.heap.size := by omega
        try (have _P3w_1 : w.heap.size + 1 < w3.heap.size := by omega)
        try (have _P3w_2 : w.heap.size + 1 + 1 < w3.heap.size := by omega)
        try (have _P3w_3 : w.heap.size + 1 + 1 + 1 < w3.heap.size := by omega)
        try (have _L3w2 : w2.heap.size < w3.heap.size := by omega)
        have _M3w2 : w2.heap.size ≤ w3.heap.size := by omega
        try (have _P3w2_1 : w2.heap.size + 1 < w3.heap.size := by omega)
        try (have _P3w2_2 : w2.heap.size + 1 + 1 < w3.heap.size := by omega)
        try (have _P3w2_3 : w2.heap.size + 1 + 1 + 1 < w3.heap.size := by omega)
        have _ : w3.cell? ⟨w.heap.size, 0, none⟩ = some (.int .i64 0) := by rw [hc3 (w.heap.size) 0 (by first | omega | (simp; done) | (simp; omega))]; first | assumption | (simp; done) | simp [go_sem, *]
        have _ : w3.frozen? ⟨w.heap.size, 0, none⟩ = false := by rw [hf3 (w.heap.size) 0 (by first | omega | (simp; done) | (simp; omega))]; first | assumption | (simp; done) | simp [go_sem, *]
        have _ : w3.cell? ⟨w.heap.size, 1, none⟩ = some (.int .i64 0) := by rw [hc3 (w.heap.size) 1 (by first | omega | (simp; done) | (simp; omega))]; first | assumption | (simp; done) | simp [go_sem, *]
        have _ : w3.frozen? ⟨w.heap.size, 1, none⟩ = false := by rw [hf3 (w.heap.size) 1 (by first | omega | (simp; done) | (simp; omega))]; first | assumption | (simp; done) | simp [go_sem, *]
        clear hc3 hf3
        go_wp2_with fail
        refine (impl_fmtR n d _ (hE.on (by (repeat (first | exact Below.refl _ _ | (refine Below.setCell ?_ (by (first | exact Nat.le_refl _ | omega | (simp <;> omega) | simp)) _) | (refine Below.alloc ?_ (by (first | exact Nat.le_refl _ | omega | (simp <;> omega) | simp)) _) | (refine below_draws ?_ _) | exact B2 | (refine Below.trans ?_ (Below.mono B2 (by (first | exact Nat.le_refl _ | omega | (simp <;> omega) | simp)))) | exact B3 | (refine Below.trans ?_ (Below.mono B3 (by (first | exact Nat.le_refl _ | omega | (simp <;> omega) | simp)))))))).tab n0 n1 d0 d1).mono ?_
        rintro e w4 ⟨rfl, B4⟩
        obtain ⟨hc4, hf4⟩ := bcell B4
        have S4 := B4.size
        try simp at S4
        try (have _L4w : w.heap.size < w4.heap.size := by omega)
        have _M4w : w.heap.size ≤ w4.heap.size := by omega
        try (have _P4w_1 : w.heap.size + 1 < w4.heap.size := by omega)
        try (have _P4w_2 : w.heap.size + 1 + 1 < w4.heap.size := by omega)
        try (have _P4w_3 : w.heap.size + 1 + 1 + 1 < w4.heap.size := by omega)
        try (have _L4w2 : w2.heap.size < w4.heap.size := by omega)
        have _M4w2 : w2.heap.size ≤ w4.heap.size := by omega
        try (have _P4w2_1 : w2.heap.size + 1 < w4.heap.size := by omega)
        try (have _P4w2_2 : w2.heap.size + 1 + 1 < w4.heap.size := by omega)
        try (have _P4w2_3 : w2.heap.size + 1 + 1 + 1 < w4.heap.size := by omega)
        try (have _L4w3 : w3.heap.size < w4.heap.size := by omega)
        have _M4w3 : w3.heap.size ≤ w4.heap.size := by omega
        try (have _P4w3_1 : w3.heap.size + 1 < w4.heap.size := by omega)
        try (have _P4w3_2 : w3.heap.size + 1 + 1 < w4.heap.size := by omega)
        try (have _P4w3_3 : w3.heap.size + 1 + 1 + 1 < w4.heap.size := by omega)
        have _ : w4.cell? ⟨w.heap.size, 0, none⟩ = some (.int .i64 0) := by rw [hc4 (w.heap.size) 0 (by first | omega | (simp; done) | (simp; omega))]; first | assumption | (simp; done) | simp [go_sem, *]
        have _ : w4.frozen? ⟨w.heap.size, 0, none⟩ = false := by rw [hf4 (w.heap.size) 0 (by first | omega | (simp; done) | (simp; omega))]; first | assumption | (simp; done) | simp [go_sem, *]
        have _ : w4.cell? ⟨w.heap.size, 1, none⟩ = some (.int .i64 0) := by rw [hc4 (w.heap.size) 1 (by first | omega | (simp; done) | (simp; omega))]; first | assumption | (simp; done) | simp [go_sem, *]
        have _ : w4.frozen? ⟨w.heap.size, 1, none⟩ = false := by rw [hf4 (w.heap.size) 1 (by first | omega | (simp; done) | (simp; omega))]; first | assumption | (simp; done) | simp [go_sem, *]
        have _ : w4.cell? ⟨w3.heap.size, 0, none⟩ = some (.int .i64 n) := by rw [hc4 (w3.heap.size) 0 (by first | omega | (simp; done) | (simp; omega))]; first | assumption | (simp; done) | simp [go_sem, *]
        have _ : w4.frozen? ⟨w3.heap.size, 0, none⟩ = false := by rw [hf4 (w3.heap.size) 0 (by first | omega | (simp; done) | (simp; omega))]; first | assumption | (simp; done) | simp [go_sem, *]
        have _ : w4.cell? ⟨w3.heap.size, 1, none⟩ = some (.int .i64 d) := by rw [hc4 (w3.heap.size) 1 (by first | omega | (simp; done) | (simp; omega))]; first | assumption | (simp; done) | simp [go_sem, *]
        have _ : w4.frozen? ⟨w3.heap.size, 1, none⟩ = false := by rw [hf4 (w3.heap.size) 1 (by first | omega | (simp; done) | (simp; omega))]; first | assumption | (simp; done) | simp [go_sem, *]
        clear hc4 hf4
        go_wp2
        exact bodyPost_ret (v := (.tuple #[.agg #[.int .i64 n, .int .i64 d], .bool true])) (by simp (maxDischargeDepth := 8) [results, Tryd.results9, go_sem, *]) rfl ⟨ret_ratio HP.out.symm, by (repeat (first | exact Below.refl _ _ | (refine Below.setCell ?_ (by (first | exact Nat.le_refl _ | omega | (simp <;> omega) | simp)) _) | (refine Below.alloc ?_ (by (first | exact Nat.le_refl _ | omega | (simp <;> omega) | simp)) _) | (refine below_draws ?_ _) | exact B2 | (refine Below.trans ?_ (Below.mono B2 (by (first | exact Nat.le_refl _ | omega | (simp <;> omega) | simp)))) | exact B3 | (refine Below.trans ?_ (Below.mono B3 (by (first | exact Nat.le_refl _ | omega | (simp <;> omega) | simp)))) | exact B4 | (refine Below.trans ?_ (Below.mono B4 (by (first | exact Nat.le_refl _ | omega | (simp <;> omega) | simp))))))⟩
      · have HP := Lib.hid (hP.trans (if_neg (fun h => hf h.2.2)))
        have hq := str_ne_of _ s hf
        clear hP hf
        go_enter Tryd.func9, Tryd.ntmps9
        go_wp2_with fail
        refine (cut_at s a b false m _ hc hs (by rw [World.cell?_alloc_past _ _ _ hg]; exact hm)).mono ?_
        rintro e w1 ⟨rfl, k, rfl⟩
        go_wp2_with fail
        refine (impl_parse_at _ n _ _ HA sa (hE.on (by (repeat (first | exact Below.refl _ _ | (refine Below.setCell ?_ (by (first | exact Nat.le_refl _ | omega | (simp <;> omega) | simp)) _) | (refine Below.alloc ?_ (by (first | exact Nat.le_refl _ | omega | (simp <;> omega) | simp)) _) | (refine below_draws ?_ _)))))).mono ?_
        rintro e w2 ⟨rfl, B2⟩
        obtain ⟨hc2, hf2⟩ := bcell B2
        have S2 := B2.size
        try simp at S2
        try (have _L2w : w.heap.size < w2.heap.size := by omega)
        have _M2w : w.heap.size ≤ w2.heap.size := by omega
        try (have _P2w_1 : w.heap.size + 1 < w2.heap.size := by omega)
        try (have _P2w_2 : w.heap.size + 1 + 1 < w2.heap.size := by omega)
        try (have _P2w_3 : w.heap.size + 1 + 1 + 1 < w2.heap.size := by omega)
        have _ : w2.cell? ⟨w.heap.size, 0, none⟩ = some (.int .i64 0) := by rw [hc2 (w.heap.size) 0 (by first | omega | (simp; done) | (simp; omega))]; first | assumption | (simp; done) | simp [go_sem, *]
        have _ : w2.frozen? ⟨w.heap.size, 0, none⟩ = false := by rw [hf2 (w.heap.size) 0 (by first | omega | (simp; done) | (simp; omega))]; first | assumption | (simp; done) | simp [go_sem, *]
        have _ : w2.cell? ⟨w.heap.size, 1, none⟩ = some (.int .i64 0) := by rw [hc2 (w.heap.size) 1 (by first | omega | (simp; done) | (simp; omega))]; first | assumption | (simp; done) | simp [go_sem, *]
        have _ : w2.frozen? ⟨w.heap.size, 1, none⟩ = false := by rw [hf2 (w.heap.size) 1 (by first | omega | (simp; done) | (simp; omega))]; first | assumption | (simp; done) | simp [go_sem, *]
        clear hc2 hf2
        go_wp2_with fail
        refine (impl_parse_at _ d _ _ HB sb (hE.on (by (repeat (first | exact Below.refl _ _ | (refine Below.setCell ?_ (by (first | exact Nat.le_refl _ | omega | (simp <;> omega) | simp)) _) | (refine Below.alloc ?_ (by (first | exact Nat.le_refl _ | omega | (simp <;> omega) | simp)) _) | (refine below_draws ?_ _) | exact B2 | (refine Below.trans ?_ (Below.mono B2 (by (first | exact Nat.le_refl _ | omega | (simp <;> omega) | simp))))))))).mono ?_
        rintro e w3 ⟨rfl, B3⟩
        obtain ⟨hc3, hf3⟩ := bcell B3
        have S3 := B3.size
        try simp at S3
        try (have _L3w : w.heap.size < w3.heap.size := by omega)
        have _M3w : w.heap.size ≤ w3.heap.size := by omega
        try (have _P3w_1 : w.heap.size + 1 < w3.heap.size := by omega)
        try (have _P3w_2 : w.heap.size + 1 + 1 < w3.heap.size := by omega)
        try (have _P3w_3 : w.heap.size + 1 + 1 + 1 < w3.heap.size := by omega)
        try (have _L3w2 : w2.heap.size < w3.heap.size := by omega)
        have _M3w2 : w2.heap.size ≤ w3.heap.size := by omega
        try (have _P3w2_1 : w2.heap.size + 1 < w3.heap.size := by omega)
        try (have _P3w2_2 : w2.heap.size + 1 + 1 < w3.heap.size := by omega)
        try (have _P3w2_3 : w2.heap.size + 1 + 1 + 1 < w3.heap.size := by omega)
        have _ : w3.cell? ⟨w.heap.size, 0, none⟩ = some (.int .i64 0) := by rw [hc3 (w.heap.size) 0 (by first | omega | (simp; done) | (simp; omega))]; first | assumption | (simp; done) | simp [go_sem, *]
        have _ : w3.frozen? ⟨w.heap.size, 0, none⟩ = false := by rw [hf3 (w.heap.size) 0 (by first | omega | (simp; done) | (simp; omega))]; first | assumption | (simp; done) | simp [go_sem, *]
        have _ : w3.cell? ⟨w.heap.size, 1, none⟩ = some (.int .i64 0) := by rw [hc3 (w.heap.size) 1 (by first | omega | (simp; done) | (simp; omega))]; first | assumption | (simp; done) | simp [go_sem, *]
        have _ : w3.frozen? ⟨w.heap.size, 1, none⟩ = false := by rw [hf3 (w.heap.size) 1 (by first | omega | (simp; done) | (simp; omega))]; first | assumption | (simp; done) | simp [go_sem, *]
        clear hc3 hf3
        go_wp2_with fail
        refine (impl_fmtR n d _ (hE.on (by (repeat (first | exact Below.refl _ _ | (refine Below.setCell ?_ (by (first | exact Nat.le_refl _ | omega | (simp <;> omega) | simp)) _) | (refine Below.alloc ?_ (by (first | exact Nat.le_refl _ | omega | (simp <;> omega) | simp)) _) | (refine below_draws ?_ _) | exact B2 | (refine Below.trans ?_ (Below.mono B2 (by (first | exact Nat.le_refl _ | omega | (simp <;> omega) | simp)))) | exact B3 | (refine Below.trans ?_ (Below.mono B3 (by (first | exact Nat.le_refl _ | omega | (simp <;> omega) | simp)))))))).tab n0 n1 d0 d1).mono ?_
        rintro e w4 ⟨rfl, B4⟩
        obtain ⟨hc4, hf4⟩ := bcell B4
        have S4 := B4.size
        try simp at S4
        try (have _L4w : w.heap.size < w4.heap.size := by omega)
        have _M4w : w.heap.size ≤ w4.heap.size := by omega
        try (have _P4w_1 : w.heap.size + 1 < w4.heap.size := by omega)
        try (have _P4w_2 : w.heap.size + 1 + 1 < w4.heap.size := by omega)
        try (have _P4w_3 : w.heap.size + 1 + 1 + 1 < w4.heap.size := by omega)
        try (have _L4w2 : w2.heap.size < w4.heap.size := by omega)
        have _M4w2 : w2.heap.size ≤ w4.heap.size := by omega
        try (have _P4w2_1 : w2.heap.size + 1 < w4.heap.size := by omega)
        try (have _P4w2_2 : w2.heap.size + 1 + 1 < w4.heap.size := by omega)
        try (have _P4w2_3 : w2.heap.size + 1 + 1 + 1 < w4.heap.size := by omega)
        try (have _L4w3 : w3.heap.size < w4.heap.size := by omega)
        have _M4w3 : w3.heap.size ≤ w4.heap.size := by omega
        try (have _P4w3_1 : w3.heap.size + 1 < w4.heap.size := by omega)
        try (have _P4w3_2 : w3.heap.size + 1 + 1 < w4.heap.size := by omega)
        try (have _P4w3_3 : w3.heap.size + 1 + 1 + 1 < w4.heap.size := by omega)
        have _ : w4.cell? ⟨w.heap.size, 0, none⟩ = some (.int .i64 0) := by rw [hc4 (w.heap.size) 0 (by first | omega | (simp; done) | (simp; omega))]; first | assumption | (simp; done) | simp [go_sem, *]
        have _ : w4.frozen? ⟨w.heap.size, 0, none⟩ = false := by rw [hf4 (w.heap.size) 0 (by first | omega | (simp; done) | (simp; omega))]; first | assumption | (simp; done) | simp [go_sem, *]
        have _ : w4.cell? ⟨w.heap.size, 1, none⟩ = some (.int .i64 0) := by rw [hc4 (w.heap.size) 1 (by first | omega | (simp; done) | (simp; omega))]; first | assumption | (simp; done) | simp [go_sem, *]
        have _ : w4.frozen? ⟨w.heap.size, 1, none⟩ = false := by rw [hf4 (w.heap.size) 1 (by first | omega | (simp; done) | (simp; omega))]; first | assumption | (simp; done) | simp [go_sem, *]
        have _ : w4.cell? ⟨w3.heap.size, 0, none⟩ = some (.int .i64 n) := by rw [hc4 (w3.heap.size) 0 (by first | omega | (simp; done) | (simp; omega))]; first | assumption | (simp; done) | simp [go_sem, *]
        have _ : w4.frozen? ⟨w3.heap.size, 0, none⟩ = false := by rw [hf4 (w3.heap.size) 0 (by first | omega | (simp; done) | (simp; omega))]; first | assumption | (simp; done) | simp [go_sem, *]
        have _ : w4.cell? ⟨w3.heap.size, 1, none⟩ = some (.int .i64 d) := by rw [hc4 (w3.heap.size) 1 (by first | omega | (simp; done) | (simp; omega))]; first | assumption | (simp; done) | simp [go_sem, *]
        have _ : w4.frozen? ⟨w3.heap.size, 1, none⟩ = false := by rw [hf4 (w3.heap.size) 1 (by first | omega | (simp; done) | (simp; omega))]; first | assumption | (simp; done) | simp [go_sem, *]
        clear hc4 hf4
        go_wp2
        exact bodyPost_ret (v := (.tuple #[.agg #[.int .i64 0, .int .i64 0], .bool false])) (by simp (maxDischargeDepth := 8) [results, Tryd.results9, go_sem, *]) rfl ⟨ret_ratio HP.out.symm, by (repeat (first | exact Below.refl _ _ | (refine Below.setCell ?_ (by (first | exact Nat.le_refl _ | omega | (simp <;> omega) | simp)) _) | (refine Below.alloc ?_ (by (first | exact Nat.le_refl _ | omega | (simp <;> omega) | simp)) _) | (refine below_draws ?_ _) | exact B2 | (refine Below.trans ?_ (Below.mono B2 (by (first | exact Nat.le_refl _ | omega | (simp <;> omega) | simp)))) | exact B3 | (refine Below.trans ?_ (Below.mono B3 (by (first | exact Nat.le_refl _ | omega | (simp <;> omega) | simp)))) | exact B4 | (refine Below.trans ?_ (Below.mono B4 (by (first | exact Nat.le_refl _ | omega | (simp <;> omega) | simp))))))⟩

theorem impl_pR (s : ByteArray) (w : World) (hs : s.size ≤ 1048576) (m : Int) (hm : w.cell? ⟨0, 0, none⟩ = some (.int .i64 m)) (hg : 0 < w.heap.size) (hE : Env w) :
    Calls Tryd.prog 9 #[.string s] w fun e w' => e = .returned (.tuple #[.agg #[.int .i64 (pR s.data.toList).1, .int .i64 (pR s.data.toList).2.1], .bool (pR s.data.toList).2.2]) ∧ Below w.heap.size w w' := by
  obtain ⟨a, b, f, h⟩ : ∃ a b f, Lib.cut s.data.toList [47] = (a, b, f) := ⟨_, _, _, rfl⟩
  cases f with
  | false => exact impl_pR_miss s w hs m hm hg hE a b (Lib.hid h)
  | true => exact impl_pR_hit s w hs m hm hg hE a b (Lib.hid h)

end Go.Proofs.YtlggmlojmdaggaaDoor
