/-
  The plan by the rule of thumb, in plain words: need by need, the greatest first.
-/
import Derived.Test.YtopoemfnnnfgdaaGreatDoorLdE
import Derived.Test.YtopoemfnnnfgdaaGreatDoorLbZ
namespace Go.Proofs.YtopoemfnnnfgdaaGreatDoor
open Go.RowKit
set_option linter.unusedSimpArgs false
set_option linter.unusedVariables false

theorem cyS_neg (each : Int) (k : Nat) : ∀ (n : Nat) (ns : List Nd), cyS each k (List.replicate n (-1)) ns = 0
  | 0, _ => by simp [cyS]
  | n + 1, [] => by simp [List.replicate_succ, cyS]
  | n + 1, x :: r => by
    rw [List.replicate_succ, cyS, cyS_neg each k n r, if_neg (by omega)]
    rfl
theorem cyS_set (each k : Int) : ∀ (P : List Int) (ns : List Nd) (i : Nat) (h : i < P.length) (h2 : i < ns.length) (x : Int), P[i] ≠ k → cyS each k (P.set i x) ns = cyS each k P ns + if x = k then each * ns[i].many else 0
  | [], _, _, h, _, _, _ => by simp at h
  | _ :: _, [], _, _, h2, _, _ => by simp at h2
  | p :: ps, n :: ns, 0, _, _, x, hne => by
    have hp : ¬ p = k := hne
    rw [List.set_cons_zero, cyS, cyS, if_neg hp]
    simp only [List.getElem_cons_zero]
    omega
  | p :: ps, n :: ns, i + 1, h, h2, x, hne => by
    rw [List.set_cons_succ, cyS, cyS, cyS_set each k ps ns i (by simpa using h) (by simpa using h2) x (by simpa using hne)]
    simp only [List.getElem_cons_succ]
    omega
theorem count_sets (P : List Int) {i : Nat} (h : i < P.length) (x k : Int) (hne : P[i] ≠ k) : (((P.set i x).count k : Nat) : Int) = ((P.count k : Nat) : Int) + if x = k then 1 else 0 := by
  rw [List.count_set h]
  have e1 : (P[i] == k) = false := beq_eq_false_iff_ne.mpr hne
  rw [e1]
  by_cases e : x = k
  · subst e; simp
  · rw [if_neg e]
    have e2 : (x == k) = false := beq_eq_false_iff_ne.mpr e
    rw [e2]
    simp
theorem ldL_neg (ms : List Mc) (ns : List Nd) (n : Nat) : ldL ms ns [] = ldL ms ns (List.replicate n (-1)) := by
  refine List.ext_getElem (by rw [ldL_len, ldL_len]) fun k h1 h2 => ?_
  have hk : k < ms.length := by rw [ldL_len] at h1; exact h1
  rw [ldL_at _ _ _ hk, ldL_at _ _ _ hk]
  unfold cyOf
  rw [cyS_neg]
  have e : (List.replicate n (-1 : Int)).count (k : Int) = 0 := by
    rw [List.count_replicate]
    have : ((-1 : Int) == (k : Int)) = false := beq_eq_false_iff_ne.mpr (by omega)
    rw [this]
    rfl
  rw [e]
  simp [cyS]
theorem ldL_set {ms : List Mc} {ns : List Nd} {P : List Int} {i : Nat} (h : i < P.length) (h2 : i < ns.length) (hne : P[i] = -1) {q : Nat} (hq : q < ms.length) :
    ldL ms ns (P.set i (q : Int)) = (ldL ms ns P).set q (cyOf ms[q] q P ns + ms[q].each * ns[i].many, ((P.count (q : Int) : Nat) : Int) + 1) := by
  refine List.ext_getElem (by rw [List.length_set, ldL_len, ldL_len]) fun k h1 h3 => ?_
  have hk : k < ms.length := by rw [ldL_len] at h1; exact h1
  rw [List.getElem_set, ldL_at _ _ _ hk, ldL_at _ _ _ hk, count_sets P h _ _ (by rw [hne]; omega)]
  unfold cyOf
  rw [cyS_set _ _ P ns i h h2 _ (by rw [hne]; omega)]
  by_cases e : q = k
  · subst e
    rw [if_pos rfl, if_pos rfl, if_pos rfl, Int.add_assoc]
  · rw [if_neg e, if_neg (by omega), if_neg (by omega)]
    simp
theorem cyOf_set {m : Mc} {ns : List Nd} {P : List Int} {i : Nat} (h : i < P.length) (h2 : i < ns.length) (hne : P[i] = -1) (q : Nat) : cyOf m q (P.set i (q : Int)) ns = cyOf m q P ns + m.each * ns[i].many := by
  unfold cyOf
  rw [cyS_set _ _ P ns i h h2 _ (by rw [hne]; omega), if_pos rfl, Int.add_assoc]

/-- The machine for need i, and its cycle. -/
def fpS (ms : List Mc) (ns : List Nd) (i : Int) (P : List Int) : Nat × Int := qk ms (ldL ms ns P) (ndA ns i.toNat).part (ndA ns i.toNat).many ms.length
def fpGo (ms : List Mc) (ns : List Nd) : List Int → List Int → Option (List Int)
  | [], P => some P
  | i :: r, P => if (fpS ms ns i P).2 < MX then fpGo ms ns r (P.set i.toNat ((fpS ms ns i P).1 : Int)) else none
def idN (n : Nat) : List Int := toZ (List.range n)
def ordN (ns : List Nd) : List Int := sortS (cfN ns) (idN ns.length)
def fpV (ms : List Mc) (ns : List Nd) : Option (List Int) := fpGo ms ns (ordN ns) (List.replicate ns.length (-1))
def fpP (ms : List Mc) (ns : List Nd) : List Int := (fpV ms ns).getD []
def fpF (ms : List Mc) (ns : List Nd) : Bool := (fpV ms ns).isSome
theorem idN_len (n : Nat) : (idN n).length = n := by unfold idN; rw [toZ_len, List.length_range]
theorem ordN_perm (ns : List Nd) : (ordN ns).Perm (idN ns.length) := sortS_perm _ _
theorem ordN_len (ns : List Nd) : (ordN ns).length = ns.length := by rw [(ordN_perm ns).length_eq, idN_len]
theorem idN_mem {n : Nat} {i : Int} : i ∈ idN n ↔ ∃ j : Nat, j < n ∧ i = (j : Int) := by
  unfold idN toZ
  rw [List.mem_map]
  constructor
  · rintro ⟨a, h, rfl⟩
    exact ⟨a, List.mem_range.mp h, rfl⟩
  · rintro ⟨j, h, rfl⟩
    exact ⟨j, List.mem_range.mpr h, rfl⟩
theorem ordN_mem {ns : List Nd} {i : Int} : i ∈ ordN ns ↔ ∃ j : Nat, j < ns.length ∧ i = (j : Int) := (ordN_perm ns).mem_iff.trans idN_mem
theorem idN_nodup (n : Nat) : (idN n).Nodup := by
  unfold idN toZ
  refine List.Pairwise.map _ (fun a b h e => h ?_) List.nodup_range
  exact Int.ofNat.inj e
theorem ordN_nodup (ns : List Nd) : (ordN ns).Nodup := (ordN_perm ns).nodup_iff.mpr (idN_nodup _)
/-- What holds when t needs have their machines. -/
structure FpI (ms : List Mc) (ns : List Nd) (t : Nat) (P : List Int) : Prop where
  len : P.length = ns.length
  un : ∀ j : Nat, (j : Int) ∈ (ordN ns).drop t → P.getD j 0 = -1
  done : ∀ j : Nat, (j : Int) ∈ (ordN ns).take t → 0 ≤ P.getD j 0
  eqv : fpV ms ns = fpGo ms ns ((ordN ns).drop t) P
theorem fpI_start (ms : List Mc) (ns : List Nd) : FpI ms ns 0 (List.replicate ns.length (-1)) := by
  refine ⟨by simp, fun j hj => ?_, fun j hj => by simp at hj, rfl⟩
  obtain ⟨j', h, e⟩ := ordN_mem.mp (List.mem_of_mem_drop hj)
  have e2 : j = j' := by omega
  rw [List.getD_eq_getElem?_getD, List.getElem?_replicate, if_pos (by omega)]
  rfl
theorem FpI.at_ {ms : List Mc} {ns : List Nd} {t : Nat} {P : List Int} (h : FpI ms ns t P) (ht : t < (ordN ns).length) : ∃ j : Nat, j < ns.length ∧ (ordN ns)[t] = (j : Int) ∧ P.getD j 0 = -1 ∧
    fpV ms ns = if (fpS ms ns j P).2 < MX then fpGo ms ns ((ordN ns).drop (t + 1)) (P.set j ((fpS ms ns j P).1 : Int)) else none := by
  obtain ⟨j, hj, e⟩ := ordN_mem.mp (List.getElem_mem ht)
  refine ⟨j, hj, e, h.un j ?_, ?_⟩
  · rw [drop_at _ ht, ← e]
    exact List.mem_cons_self
  · rw [h.eqv, drop_at _ ht, e, fpGo, Int.toNat_natCast]
theorem FpI.step {ms : List Mc} {ns : List Nd} {t : Nat} {P : List Int} (h : FpI ms ns t P) (ht : t < (ordN ns).length) {j : Nat} (hj : j < ns.length) (e : (ordN ns)[t] = (j : Int)) (q : Nat)
    (hv : fpV ms ns = fpGo ms ns ((ordN ns).drop (t + 1)) (P.set j (q : Int))) : FpI ms ns (t + 1) (P.set j (q : Int)) := by
  refine ⟨by rw [List.length_set]; exact h.len, fun i hi => ?_, fun i hi => ?_, hv⟩
  · have hne : i ≠ j := fun ej => by
      subst ej
      have hnd := ordN_nodup ns
      rw [← List.take_append_drop t (ordN ns), drop_at _ ht] at hnd
      have h2 := (List.nodup_append.mp hnd).2.1
      rw [List.nodup_cons] at h2
      rw [e] at h2
      exact h2.1 hi
    rw [List.getD_eq_getElem?_getD, List.getElem?_set_ne (fun x => hne x.symm), ← List.getD_eq_getElem?_getD]
    exact h.un i (by rw [drop_at _ ht]; exact List.mem_cons_of_mem _ hi)
  · by_cases ej : i = j
    · subst ej
      rw [List.getD_eq_getElem?_getD, List.getElem?_set_self (by rw [h.len]; exact hj)]
      show 0 ≤ (q : Int)
      omega
    · rw [List.getD_eq_getElem?_getD, List.getElem?_set_ne (fun x => ej x.symm), ← List.getD_eq_getElem?_getD]
      refine h.done i ?_
      rw [List.take_succ_eq_append_getElem ht, List.mem_append] at hi
      rcases hi with hi | hi
      · exact hi
      · rw [List.mem_singleton, e] at hi
        omega
def nz (P : List Int) : List Int := P.map fun x => if x < 0 then 0 else x
theorem nz_len (P : List Int) : (nz P).length = P.length := by unfold nz; rw [List.length_map]
theorem nz_set (P : List Int) (j q : Nat) : nz (P.set j (q : Int)) = (nz P).set j (q : Int) := by
  unfold nz
  rw [List.map_set, if_neg (by omega)]
theorem nz_start (n : Nat) : nz (List.replicate n (-1)) = List.replicate n 0 := by
  unfold nz
  rw [List.map_replicate]
  rfl
theorem FpI.last {ms : List Mc} {ns : List Nd} {P : List Int} (h : FpI ms ns (ordN ns).length P) : nz P = P ∧ fpV ms ns = some P := by
  refine ⟨?_, ?_⟩
  · unfold nz
    apply List.ext_getElem (by rw [List.length_map])
    intro j h1 h2
    rw [List.getElem_map, if_neg]
    have := h.done j (by rw [List.take_length]; exact ordN_mem.mpr ⟨j, by rw [h.len] at h2; exact h2, rfl⟩)
    rw [getD_at h2] at this
    omega
  · have := h.eqv
    rw [List.drop_length] at this
    exact this
theorem qk_lt {ms : List Mc} (hm : 0 < ms.length) (L : List (Int × Int)) (x : ByteArray) (many : Int) : ∀ t, t ≤ ms.length → (qk ms L x many t).1 < ms.length
  | 0, _ => hm
  | t + 1, ht => by
    have ih := qk_lt hm L x many t (by omega)
    rw [qk]
    split
    · show t < ms.length
      omega
    · exact ih
/-- What the reference holds: none is -1. -/
def rfB (q : Nat × Int) : Int × Int := if q.2 < MX then ((q.1 : Int), q.2) else (-1, 0)
theorem ld_bounds {ms : List Mc} {ns : List Nd} (hm : MsOk ms) (hn : NsOk ns) {P : List Int} (hl : P.length ≤ 1000) : ∀ l ∈ ldL ms ns P, (0 ≤ l.1 ∧ l.1 ≤ 100000000000000) ∧ 0 ≤ l.2 ∧ l.2 ≤ 1000 := by
  intro l hl'
  obtain ⟨k, hk, rfl⟩ := List.getElem_of_mem hl'
  rw [ldL_len] at hk
  rw [ldL_at _ _ _ hk]
  have h1 := cyOf_bound (hm.ok _ (List.getElem_mem hk)) k P hn
  have h2 : P.count (k : Int) ≤ P.length := List.count_le_length
  dsimp only
  omega
end Go.Proofs.YtopoemfnnnfgdaaGreatDoor
