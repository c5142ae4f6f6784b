import PyProof.Rows.All
import KE.OsGo
import KE.OsArgs
import KE.OsMore
import PySem.Challenge.RW_partfits_s01_fits
open PySem PySem.W
set_option Elab.async false
/- fits of the landed program against PyKs328.fits: the request is read once (req), the walk runs with its bounds in the
   context, and each of the five ways to the end is closed by a lemma about numbers alone. -/
namespace My
theorem okSpan_iff {lo hi : Int} (hl : 0 ≤ lo) (hh : 0 ≤ hi) : Ks328.okSpan ⟨lo.toNat, hi.toNat⟩ = false ↔ ¬ (lo ≤ hi ∧ hi ≤ 127) := by
  unfold Ks328.okSpan Ks328.NOTE
  simp only [Bool.and_eq_false_iff, decide_eq_false_iff_not]
  omega
theorem fits_iff {a b c d t : Int} (ha : 0 ≤ a) (hb : 0 ≤ b) (hc : 0 ≤ c) (hd : 0 ≤ d) :
    Ks328.fits ⟨a.toNat, b.toNat⟩ ⟨c.toNat, d.toNat⟩ t = true ↔ a ≤ c + t ∧ d + t ≤ b := by
  unfold Ks328.fits
  simp only [Bool.and_eq_true, decide_eq_true_eq]
  omega
theorem fits_eq {a b c d t : Int} (ha : 0 ≤ a) (hb : 0 ≤ b) (hc : 0 ≤ c) (hd : 0 ≤ d) :
    PyKs328.fits a b c d [t] = if ¬ (a ≤ b ∧ b ≤ 127) ∨ ¬ (c ≤ d ∧ d ≤ 127) then [-22]
      else if t < -24 ∨ 24 < t then [-34] else if a ≤ c + t ∧ d + t ≤ b then [1] else [0] := by
  have e : PyKs328.fits a b c d [t] =
      (fun (x : Ks328.Ans) => x.ret :: x.out) (Ks328.answer (.fits ⟨a.toNat, b.toNat⟩ ⟨c.toNat, d.toNat⟩ t)) := rfl
  rw [e]
  have k1 := okSpan_iff ha hb
  have k2 := okSpan_iff hc hd
  have k3 := fits_iff (t := t) ha hb hc hd
  simp only [Ks328.answer, k1, k2, k3]
  split
  · rfl
  · split
    · rfl
    · split <;> rfl
abbrev rw := PySem.Challenge.rw_partfits_s01_fits
theorem said : rw.wellSaid = true := by decide +kernel
-- what may be handed in, and what the answer must be
theorem req {a b c d : Int} {ns : List Int} (h : rw.pre [.int a, .int b, .int c, .int d, ofPy (.list (ns.map PyData.int))] = true) :
    (0 ≤ a ∧ 0 ≤ b ∧ 0 ≤ c ∧ 0 ≤ d ∧ (a ≤ 4294967295 ∧ b ≤ 4294967295 ∧ c ≤ 4294967295 ∧ d ≤ 4294967295) ∧ ∃ t, ns = [t] ∧ -2147483648 ≤ t ∧ t ≤ 2147483647) ∧
    ∀ x : Int, [x] = PyKs328.fits a b c d ns → rw.post [.int a, .int b, .int c, .int d, ofPy (.list (ns.map PyData.int))] (ofPy (.list [.int x])) = true := by
  obtain ⟨⟨a', b', c', d', ns', u⟩, w, q, e⟩ := os_pre said h
  have e1 := os_j_int (List.cons.inj e).1
  have r1 := (List.cons.inj e).2
  have e2 := os_j_int (List.cons.inj r1).1
  have r2 := (List.cons.inj r1).2
  have e3 := os_j_int (List.cons.inj r2).1
  have r3 := (List.cons.inj r2).2
  have e4 := os_j_int (List.cons.inj r3).1
  have r4 := (List.cons.inj r3).2
  have e5 := os_j_ints (List.cons.inj r4).1
  subst e1 e2 e3 e4 e5
  refine ⟨?_, fun x k => ?_⟩
  · have w' : (Codec.inInt 0 4294967295 a && (Codec.inInt 0 4294967295 b && (Codec.inInt 0 4294967295 c && (Codec.inInt 0 4294967295 d &&
        (((decide (1 ≤ ns.length) && decide (ns.length ≤ 1)) && ns.all (Codec.inInt (Int.negSucc 2147483647) 2147483647)) && true))))) = true := w
    simp only [Codec.inInt, Bool.and_eq_true, decide_eq_true_eq, Bool.and_true] at w'
    obtain ⟨⟨a0, a1⟩, ⟨b0, b1⟩, ⟨c0, c1⟩, ⟨d0, d1⟩, ⟨l0, l1⟩, wt⟩ := w'
    refine ⟨a0, b0, c0, d0, ⟨a1, b1, c1, d1⟩, ?_⟩
    match ns, l0, l1, wt with
    | [t], _, _, wt =>
      have wt' : (decide (-2147483648 ≤ t) && decide (t ≤ 2147483647)) = true := List.all_eq_true.mp wt t (List.mem_singleton.mpr rfl)
      rw [Bool.and_eq_true, decide_eq_true_eq, decide_eq_true_eq] at wt'
      exact ⟨t, rfl, wt'.1, wt'.2⟩
    | [], l0, _, _ => exact absurd l0 (by decide)
    | _ :: _ :: _, _, l1, _ =>
      simp only [List.length_cons] at l1
      omega
  · rw [e]
    refine os_shut said w ?_
    show ofPy (.list ([x].map PyData.int)) = .list ((PyKs328.fits a b c d ns).map WData.int)
    exact os_list (congrArg (List.map PyData.int) k)
theorem span {lo hi : Int} {v : Bool} (h : (if lo ≤ hi then decide (hi ≤ 127) else decide (lo ≤ hi)) = v) : (lo ≤ hi ∧ hi ≤ 127) ↔ v = true := by
  subst h
  by_cases k : lo ≤ hi
  · rw [if_pos k, decide_eq_true_eq]
    omega
  · rw [if_neg k, decide_eq_true_eq]
    omega
theorem end_voice {a b c d : Int} {ns : List Int} (h : rw.pre [.int a, .int b, .int c, .int d, ofPy (.list (ns.map PyData.int))] = true)
    (k1 : (if a ≤ b then decide (b ≤ 127) else decide (a ≤ b)) = false) :
    rw.post [.int a, .int b, .int c, .int d, ofPy (.list (ns.map PyData.int))] (ofPy (.list [.int (-22)])) = true := by
  obtain ⟨⟨a0, b0, c0, d0, _, t, rfl, _, _⟩, post⟩ := req h
  refine post _ ?_
  have k1 : ¬ (a ≤ b ∧ b ≤ 127) := fun x => absurd ((span k1).mp x) (by decide)
  rw [fits_eq a0 b0 c0 d0, if_pos (.inl k1)]
theorem end_part {a b c d : Int} {ns : List Int} (h : rw.pre [.int a, .int b, .int c, .int d, ofPy (.list (ns.map PyData.int))] = true)
    (k2 : (if c ≤ d then decide (d ≤ 127) else decide (c ≤ d)) = false) :
    rw.post [.int a, .int b, .int c, .int d, ofPy (.list (ns.map PyData.int))] (ofPy (.list [.int (-22)])) = true := by
  obtain ⟨⟨a0, b0, c0, d0, _, t, rfl, _, _⟩, post⟩ := req h
  refine post _ ?_
  have k2 : ¬ (c ≤ d ∧ d ≤ 127) := fun x => absurd ((span k2).mp x) (by decide)
  rw [fits_eq a0 b0 c0 d0, if_pos (.inr k2)]
theorem end_far {a b c d : Int} {ns : List Int} (h : rw.pre [.int a, .int b, .int c, .int d, ofPy (.list (ns.map PyData.int))] = true)
    (k1 : (if a ≤ b then decide (b ≤ 127) else decide (a ≤ b)) = true) (k2 : (if c ≤ d then decide (d ≤ 127) else decide (c ≤ d)) = true)
    (k3 : 24 < if ns.getD (Int.toNat 0) 0 < 0 then -ns.getD (Int.toNat 0) 0 else ns.getD (Int.toNat 0) 0) :
    rw.post [.int a, .int b, .int c, .int d, ofPy (.list (ns.map PyData.int))] (ofPy (.list [.int (-34)])) = true := by
  obtain ⟨⟨a0, b0, c0, d0, _, t, rfl, _, _⟩, post⟩ := req h
  refine post _ ?_
  have k1 := (span k1).mpr rfl
  have k2 := (span k2).mpr rfl
  have k3' : 24 < if t < 0 then -t else t := k3
  have k4 : t < -24 ∨ 24 < t := by
    split at k3' <;> omega
  have k7 : ¬ (¬ (a ≤ b ∧ b ≤ 127) ∨ ¬ (c ≤ d ∧ d ≤ 127)) := by omega
  rw [fits_eq a0 b0 c0 d0, if_neg k7, if_pos k4]
theorem end_fit {a b c d : Int} {ns : List Int} {v : Bool} (h : rw.pre [.int a, .int b, .int c, .int d, ofPy (.list (ns.map PyData.int))] = true)
    (k1 : (if a ≤ b then decide (b ≤ 127) else decide (a ≤ b)) = true) (k2 : (if c ≤ d then decide (d ≤ 127) else decide (c ≤ d)) = true)
    (k3 : ¬ 24 < if ns.getD (Int.toNat 0) 0 < 0 then -ns.getD (Int.toNat 0) 0 else ns.getD (Int.toNat 0) 0)
    (k4 : (if a ≤ c + ns.getD (Int.toNat 0) 0 then decide (d + ns.getD (Int.toNat 0) 0 ≤ b) else decide (a ≤ c + ns.getD (Int.toNat 0) 0)) = v) :
    rw.post [.int a, .int b, .int c, .int d, ofPy (.list (ns.map PyData.int))] (ofPy (.list [.int (if v = true then 1 else 0)])) = true := by
  obtain ⟨⟨a0, b0, c0, d0, _, t, rfl, _, _⟩, post⟩ := req h
  refine post _ ?_
  have k1 := (span k1).mpr rfl
  have k2 := (span k2).mpr rfl
  have k3' : ¬ 24 < if t < 0 then -t else t := k3
  have k4' : (if a ≤ c + t then decide (d + t ≤ b) else decide (a ≤ c + t)) = v := k4
  have k5 : ¬ (t < -24 ∨ 24 < t) := by
    split at k3' <;> omega
  have k6 : (a ≤ c + t ∧ d + t ≤ b) ↔ v = true := by
    subst k4'
    by_cases k : a ≤ c + t
    · rw [if_pos k, decide_eq_true_eq]
      omega
    · rw [if_neg k, decide_eq_true_eq]
      omega
  have k7 : ¬ (¬ (a ≤ b ∧ b ≤ 127) ∨ ¬ (c ≤ d ∧ d ≤ 127)) := by omega
  rw [fits_eq a0 b0 c0 d0, if_neg k7, if_neg k5]
  cases v with
  | true =>
    rw [if_pos (k6.mpr rfl)]
    rfl
  | false =>
    have k8 : ¬ (a ≤ c + t ∧ d + t ≤ b) := fun x => absurd (k6.mp x) (by decide)
    rw [if_neg k8]
    rfl
end My
set_option maxRecDepth 100000 in
set_option maxHeartbeats 8000000 in
theorem PySem.Challenge.cw_partfits_s01_fits_holds : PySem.Challenge.rw_partfits_s01_fits.Holds := by
  open_ks0 with [.int 0, .int 0, .int 0, .int 0, .list [.int 0]]
  with_reducible rename OpenSpec.pre _ _ = true => osP
  obtain ⟨⟨a0, b0, c0, d0, ⟨a1, b1, c1, d1⟩, t, et, t0, t1⟩, _⟩ := My.req osP
  have el := congrArg List.length et
  simp only [List.length_cons, List.length_nil, Nat.zero_add] at el
  ks_steps
  · exact My.end_far hpre (by assumption) (by assumption) (by assumption)
  · exact My.end_fit (v := true) hpre (by assumption) (by assumption) (by assumption) (by assumption)
  · exact My.end_fit (v := false) hpre (by assumption) (by assumption) (by assumption) (by assumption)
  · exact My.end_part hpre (by assumption)
  · exact My.end_voice hpre (by assumption)
#print axioms PySem.Challenge.cw_partfits_s01_fits_holds
