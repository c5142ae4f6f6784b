import PyProof.Rows.All
import KE.OsGo
import KE.OsArgs
import KE.OsMore
import PySem.Challenge.RW_partfits_s02_shifts
open PySem PySem.W
set_option Elab.async false
/- shifts of the landed program against PyKs328.shifts. Two words carry the two loops: the list of all that is tried is built from 0
   and each of 1 to 24 both ways (Near), and what is found is the filter of what was walked (Told). Behind them stand three ends. -/
namespace My
abbrev rw := PySem.Challenge.rw_partfits_s02_shifts
theorem said : rw.wellSaid = true := by decide +kernel
-- the specification in plain numbers
theorem okSpan_iff {lo hi : Int} (hl : 0 ≤ lo) (hh : 0 ≤ hi) : Ks328.okSpan ⟨lo.toNat, hi.toNat⟩ = false ↔ ¬ (lo ≤ hi ∧ hi ≤ 127) := by
  unfold Ks328.okSpan Ks328.NOTE
  simp only [Bool.and_eq_false_iff, decide_eq_false_iff_not]
  omega
def fit (a b c d t : Int) : Bool := decide (a ≤ c + t) && decide (d + t ≤ b)
theorem fits_fit {a b c d : Int} (ha : 0 ≤ a) (hb : 0 ≤ b) (hc : 0 ≤ c) (hd : 0 ≤ d) :
    Ks328.fits ⟨a.toNat, b.toNat⟩ ⟨c.toNat, d.toNat⟩ = fit a b c d := by
  funext t
  unfold Ks328.fits fit
  simp only [Int.toNat_of_nonneg ha, Int.toNat_of_nonneg hb, Int.toNat_of_nonneg hc, Int.toNat_of_nonneg hd]
theorem shifts_eq {a b c d : Int} (ha : 0 ≤ a) (hb : 0 ≤ b) (hc : 0 ≤ c) (hd : 0 ≤ d) :
    PyKs328.shifts a b c d = if ¬ (a ≤ b ∧ b ≤ 127) ∨ ¬ (c ≤ d ∧ d ≤ 127) then [-22]
      else ((Ks328.tried.filter (fit a b c d)).length : Int) :: Ks328.tried.filter (fit a b c d) := by
  have e : PyKs328.shifts a b c d =
      (fun (x : Ks328.Ans) => x.ret :: x.out) (Ks328.answer (.shifts ⟨a.toNat, b.toNat⟩ ⟨c.toNat, d.toNat⟩)) := rfl
  rw [e]
  have k1 := okSpan_iff ha hb
  have k2 := okSpan_iff hc hd
  have k3 := fits_fit ha hb hc hd
  simp only [Ks328.answer, Ks328.shifts, k1, k2, k3]
  split <;> rfl
-- what may be handed in, and what the answer must be
theorem req {a b c d : Int} (h : rw.pre [.int a, .int b, .int c, .int d] = true) :
    (0 ≤ a ∧ 0 ≤ b ∧ 0 ≤ c ∧ 0 ≤ d) ∧
    ∀ l : List Int, l = PyKs328.shifts a b c d → rw.post [.int a, .int b, .int c, .int d] (ofPy (.list (l.map PyData.int))) = true := by
  obtain ⟨⟨a', b', c', d', u⟩, w, q, e⟩ := os_pre said h
  have e1 := os_j_int (List.cons.inj e).1
  have r1 := (List.cons.inj e).2
  have e2 := os_j_int (List.cons.inj r1).1
  have r2 := (List.cons.inj r1).2
  have e3 := os_j_int (List.cons.inj r2).1
  have r3 := (List.cons.inj r2).2
  have e4 := os_j_int (List.cons.inj r3).1
  subst e1 e2 e3 e4
  refine ⟨?_, fun l k => ?_⟩
  · have w' : (Codec.inInt 0 4294967295 a && (Codec.inInt 0 4294967295 b && (Codec.inInt 0 4294967295 c && (Codec.inInt 0 4294967295 d && true)))) = true := w
    simp only [Codec.inInt, Bool.and_eq_true, decide_eq_true_eq, Bool.and_true] at w'
    obtain ⟨⟨a0, _⟩, ⟨b0, _⟩, ⟨c0, _⟩, ⟨d0, _⟩⟩ := w'
    exact ⟨a0, b0, c0, d0⟩
  · rw [e]
    refine os_shut said w ?_
    show ofPy (.list (l.map PyData.int)) = .list ((PyKs328.shifts a b c d).map WData.int)
    exact os_list (congrArg (List.map PyData.int) k)
theorem span {lo hi : Int} {v : Bool} (h : (if lo ≤ hi then decide (hi ≤ 127) else decide (lo ≤ hi)) = v) : (lo ≤ hi ∧ hi ≤ 127) ↔ v = true := by
  subst h
  by_cases k : lo ≤ hi
  · rw [if_pos k, decide_eq_true_eq]
    omega
  · rw [if_neg k, decide_eq_true_eq]
    omega
-- the first loop: each of the numbers walked, both ways, behind 0
def both (l : List Int) : List Int := 0 :: l.flatMap fun k => [k, -k]
structure Near (pre out : List Int) : Prop where
  eq : out = both pre
theorem near0 : ([0] : List Int).length = 2 * ([] : List Int).length + 1 ∧ ([] : List Int).length ≤ 24 ∧ Near [] [0] := ⟨rfl, by decide, ⟨rfl⟩⟩
theorem near1 {pre out : List Int} {k : Int} (T : Near pre out) (h : out.length = 2 * pre.length + 1) (hl : pre.length < 24) :
    (out ++ [k] ++ [-k]).length = 2 * (pre ++ [k]).length + 1 ∧ (pre ++ [k]).length ≤ 24 ∧ Near (pre ++ [k]) (out ++ [k] ++ [-k]) := by
  refine ⟨by simp only [List.length_append, List.length_singleton]; omega, by simp only [List.length_append, List.length_singleton]; omega, ⟨?_⟩⟩
  rw [T.eq]
  unfold both
  rw [List.flatMap_append, List.append_assoc]
  rfl
theorem all_tried : both (rangeKs 1 (24 + 1 - 1 : Int).toNat) = Ks328.tried := by decide +kernel
-- the second loop: of the numbers walked those that fit
structure Told (a b c d : Int) (pre out : List Int) : Prop where
  eq : out = pre.filter (fit a b c d)
theorem told0 {a b c d : Int} : ([] : List Int).length ≤ ([] : List Int).length ∧ ([] : List Int).length ≤ 49 ∧ Told a b c d [] [] := ⟨Nat.le_refl _, by decide, ⟨rfl⟩⟩
theorem longer {all pre post : List Int} {k : Int} (e : all = pre ++ k :: post) (n : all.length ≤ 49) : (pre ++ [k]).length ≤ 49 := by
  have h := congrArg List.length e
  simp only [List.length_append, List.length_cons, List.length_nil] at h ⊢
  omega
theorem told1 {a b c d k : Int} {all pre post out : List Int} (T : Told a b c d pre out) (h : out.length ≤ pre.length) (e : all = pre ++ k :: post)
    (hk : (if a ≤ c + k then decide (d + k ≤ b) else decide (a ≤ c + k)) = true) (n : all.length ≤ 49) :
    (out ++ [k]).length ≤ (pre ++ [k]).length ∧ (pre ++ [k]).length ≤ 49 ∧ Told a b c d (pre ++ [k]) (out ++ [k]) := by
  refine ⟨by simp only [List.length_append, List.length_singleton]; omega, longer e n, ⟨?_⟩⟩
  have f : fit a b c d k = true := by
    unfold fit
    by_cases x : a ≤ c + k
    · rw [if_pos x] at hk
      rw [hk, decide_eq_true x]
      rfl
    · rw [if_neg x] at hk
      exact absurd (of_decide_eq_true hk) x
  rw [T.eq, List.filter_append, List.filter_cons, f]
  rfl
theorem told2 {a b c d k : Int} {all pre post out : List Int} (T : Told a b c d pre out) (h : out.length ≤ pre.length) (e : all = pre ++ k :: post)
    (hk : (if a ≤ c + k then decide (d + k ≤ b) else decide (a ≤ c + k)) = false) (n : all.length ≤ 49) :
    out.length ≤ (pre ++ [k]).length ∧ (pre ++ [k]).length ≤ 49 ∧ Told a b c d (pre ++ [k]) out := by
  refine ⟨by simp only [List.length_append, List.length_singleton]; omega, longer e n, ⟨?_⟩⟩
  have f : fit a b c d k = false := by
    unfold fit
    by_cases x : a ≤ c + k
    · rw [if_pos x] at hk
      rw [hk, Bool.and_false]
    · rw [decide_eq_false x, Bool.false_and]
  rw [T.eq, List.filter_append, List.filter_cons, f]
  exact (List.append_nil _).symm
-- the ends
theorem end_voice {a b c d : Int} (h : rw.pre [.int a, .int b, .int c, .int d] = true)
    (k1 : (if a ≤ b then decide (b ≤ 127) else decide (a ≤ b)) = false) :
    rw.post [.int a, .int b, .int c, .int d] (ofPy (.list [.int (-22)])) = true := by
  obtain ⟨⟨a0, b0, c0, d0⟩, post⟩ := req h
  refine post [-22] ?_
  have k1 : ¬ (a ≤ b ∧ b ≤ 127) := fun x => absurd ((span k1).mp x) (by decide)
  rw [shifts_eq a0 b0 c0 d0, if_pos (.inl k1)]
theorem end_part {a b c d : Int} (h : rw.pre [.int a, .int b, .int c, .int d] = true)
    (k2 : (if c ≤ d then decide (d ≤ 127) else decide (c ≤ d)) = false) :
    rw.post [.int a, .int b, .int c, .int d] (ofPy (.list [.int (-22)])) = true := by
  obtain ⟨⟨a0, b0, c0, d0⟩, post⟩ := req h
  refine post [-22] ?_
  have k2 : ¬ (c ≤ d ∧ d ≤ 127) := fun x => absurd ((span k2).mp x) (by decide)
  rw [shifts_eq a0 b0 c0 d0, if_pos (.inr k2)]
theorem end_found {a b c d : Int} {all out : List Int} (h : rw.pre [.int a, .int b, .int c, .int d] = true)
    (k1 : (if a ≤ b then decide (b ≤ 127) else decide (a ≤ b)) = true) (k2 : (if c ≤ d then decide (d ≤ 127) else decide (c ≤ d)) = true)
    (N : Near (rangeKs 1 (24 + 1 - 1 : Int).toNat) all) (T : Told a b c d all out) :
    rw.post [.int a, .int b, .int c, .int d] (WData.list (ofPys (List.map PyData.int ([(out.length : Int)] ++ out)))) = true := by
  obtain ⟨⟨a0, b0, c0, d0⟩, post⟩ := req h
  refine post ([(out.length : Int)] ++ out) ?_
  have k1 := (span k1).mpr rfl
  have k2 := (span k2).mpr rfl
  have k7 : ¬ (¬ (a ≤ b ∧ b ≤ 127) ∨ ¬ (c ≤ d ∧ d ≤ 127)) := by omega
  have e : out = Ks328.tried.filter (fit a b c d) := by rw [T.eq, N.eq, all_tried]
  rw [shifts_eq a0 b0 c0 d0, if_neg k7, ← e]
  rfl
theorem one {k : Int} {t : Tok} : PyProof.Rows.IntsAre [Value.int k t] [k] := .cons k t .nil
end My
local macro_rules | `(tactic| walk_at "call builtin:list.append") => `(tactic| (k_here; (with_reducible show wpAny _ _ (call (Value.builtin _) [Value.ref _, Value.int _ _]) _ _ _); k_dflt (refine' append_K ?fr ?nw ?up ?_ ?sz; (case fr => k_asm); (case nw => k_asm); (case up => k_upd); (case sz => (simp only [Array.size_push, List.size_toArray, PySem.sizeLine_eq]; omega)); k_whole); intro h' F' N'; (try k_sweep)))
local macro_rules | `(tactic| kst_facts1) => `(tactic| with_reducible exact My.one)
set_option maxRecDepth 100000 in
set_option maxHeartbeats 8000000 in
theorem PySem.Challenge.cw_partfits_s02_shifts_holds : PySem.Challenge.rw_partfits_s02_shifts.Holds := by
  k_with "state" => first
    | exact My.near0
    | exact My.told0
    | exact My.near1 (by assumption) (by assumption) (by omega)
    | exact My.told1 (by assumption) (by assumption) (by assumption) (by assumption) (by omega)
    | exact My.told2 (by assumption) (by assumption) (by assumption) (by assumption) (by omega)
  k_with "pyIter ref" => (k_of "step" => k_state (fun pre found => found.length = 2 * pre.length + 1 ∧ pre.length ≤ 24 ∧ My.Near pre found) "found")
  k_with "pyIter ref" => (k_of "shift" => k_state_given ["voicelow", "voicehigh", "partlow", "parthigh"] (fun a b c d pre found => found.length ≤ pre.length ∧ pre.length ≤ 49 ∧ My.Told a b c d pre found) "found")
  open_ks0 with [.int 0, .int 0, .int 0, .int 0]
  ks_steps
  · exact My.end_found hpre (by assumption) (by assumption) (by assumption) (by assumption)
  · exact My.end_part hpre (by assumption)
  · exact My.end_voice hpre (by assumption)
#print axioms PySem.Challenge.cw_partfits_s02_shifts_holds
