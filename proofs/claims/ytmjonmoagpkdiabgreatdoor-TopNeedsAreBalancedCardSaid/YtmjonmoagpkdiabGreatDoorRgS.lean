/-
  The law of a drawn region in which one operation writes more than the others: what it leaves need only stand behind those operations that do not come before it.
-/
import Derived.Test.YtmjonmoagpkdiabGreatDoorRg
namespace Go.Proofs.YtmjonmoagpkdiabGreatDoor.Rg
variable {P : Program} {Q : Exit → Act → World → Prop}

/-- What an operation may turn: the special one by S, the loose ones nothing, the others by E. -/
def RelS (sp : Nat) (loose : List Nat) (E S : World → World → Prop) (i : Nat) (a b : World) : Prop := if i = sp then S a b else if loose.contains i = true then a = b else E a b
theorem rgS {l : List Oper} {id : Nat} {a0 : Act} {w : World} (sp : Nat) (loose : List Nat) (G E S : World → World → Prop) (Ts : List ((Nat → Value) → World → Prop)) (tab : List (List Nat)) (ds : List (Option Tmp)) (news : List Nat) (I : Nat → World → Prop) (full : List (List Nat))
    (hmix : P.follows .mixedOrders = true) (hm : tab.length ≤ l.toArray.size) (hds : l.map (·.dst) = ds) (hfull : full.take tab.length = tab)
    (hc : closedB l.toArray full = true) (hcl : cleanB l.toArray full a0.tmps.size = true) (htl : tailB l.toArray full tab.length = true)
    (hrefl : ∀ x, G x x) (htrans : ∀ x y z, G x y → G y z → G x z) (hsize : ∀ x y, G x y → x.heap.size ≤ y.heap.size) (hEG : ∀ x y, E x y → G x y) (hSG : ∀ x y, S x y → G x y)
    (hloose : ((List.range tab.length).all fun i => (tab.getD sp []).contains i || i == sp || loose.contains i) = true)
    (hst : ∀ j, j ≠ sp → ∀ vs w w', Ts.getD j (fun _ _ => True) vs w → E w w' → Ts.getD j (fun _ _ => True) vs w')
    (hst2 : ∀ j, j ≠ sp → (tab.getD j []).contains sp = false → ∀ vs w w', Ts.getD j (fun _ _ => True) vs w → S w w' → Ts.getD j (fun _ _ => True) vs w')
    (hI : I 0 w.drew)
    (hstep : Steps P l.toArray (RelS sp loose E S) G (tell Ts tab) news I ds a0 w.drew tab 0 l)
    (hend : ∀ (vs : Nat → Value) (w' : World), G w.drew w' → I tab.length w' → (∀ j, j < tab.length → tell Ts tab vs j w') → Fresh news w.heap.size vs (List.range tab.length) w' →
      wpList P l.toArray Q (l.drop tab.length) (putsD ds vs (List.range tab.length) a0) w') :
    (Code.region id l.toArray true).wp P Q a0 w := by
  refine rg (RelS sp loose E S) G Ts tab ds news I hmix hm (by simpa using hds) full hfull hc hcl htl hrefl htrans hsize ?_ ?_ hI (by simpa using hstep) (fun vs w' h1 h2 h3 h4 => wpOps_tail hm (by simpa using hend vs w' h1 h2 h3 h4))
  · intro i x y h
    unfold RelS at h
    split at h
    · exact hSG _ _ h
    · split at h
      · rw [h]; exact hrefl _
      · exact hEG _ _ h
  · intro vs j i w w' hj hi hn hne h hR
    unfold tell at *
    unfold RelS at hR
    split at hR
    · rename_i hsp
      subst hsp
      refine hst2 j (Ne.symm hne) ?_ _ _ _ h hR
      rw [Bool.eq_false_iff]
      intro hc
      exact hn (by rwa [List.contains_iff_mem] at hc)
    · split at hR
      · rw [← hR]; exact h
      · rename_i h1 h2
        by_cases hjs : j = sp
        · subst hjs
          exfalso
          have := List.all_eq_true.mp hloose i (List.mem_range.mpr hi)
          simp only [Bool.or_eq_true] at this
          rcases this with (h3 | h3) | h3
          · exact hn (by rwa [List.contains_iff_mem] at h3)
          · exact h1 (by simpa using h3)
          · exact h2 h3
        · exact hst j hjs _ _ _ h hR
/-- The law in which one operation may turn what stands behind it no longer: those that come behind it leave all as it is. -/
theorem rgS2 {l : List Oper} {id : Nat} {a0 : Act} {w : World} (sp : Nat) (G E S : World → World → Prop) (Ts : List ((Nat → Value) → World → Prop)) (tab : List (List Nat)) (ds : List (Option Tmp)) (news : List Nat) (I : Nat → World → Prop) (full : List (List Nat))
    (hmix : P.follows .mixedOrders = true) (hm : tab.length ≤ l.toArray.size) (hds : l.map (·.dst) = ds) (hfull : full.take tab.length = tab)
    (hc : closedB l.toArray full = true) (hcl : cleanB l.toArray full a0.tmps.size = true) (htl : tailB l.toArray full tab.length = true)
    (hrefl : ∀ x, G x x) (htrans : ∀ x y z, G x y → G y z → G x z) (hsize : ∀ x y, G x y → x.heap.size ≤ y.heap.size) (hEG : ∀ x y, E x y → G x y) (hSG : ∀ x y, S x y → G x y)
    (hst : ∀ j vs w w', Ts.getD j (fun _ _ => True) vs w → E w w' → Ts.getD j (fun _ _ => True) vs w')
    (hst2 : ∀ j, j ≠ sp → (tab.getD j []).contains sp = false → ∀ vs w w', Ts.getD j (fun _ _ => True) vs w → S w w' → Ts.getD j (fun _ _ => True) vs w')
    (hI : I 0 w.drew)
    (hstep : Steps P l.toArray (fun i a b => if i = sp then S a b else E a b) G (tell Ts tab) news I ds a0 w.drew tab 0 l)
    (hend : ∀ (vs : Nat → Value) (w' : World), G w.drew w' → I tab.length w' → (∀ j, j < tab.length → tell Ts tab vs j w') → Fresh news w.heap.size vs (List.range tab.length) w' →
      wpList P l.toArray Q (l.drop tab.length) (putsD ds vs (List.range tab.length) a0) w') :
    (Code.region id l.toArray true).wp P Q a0 w := by
  refine rg (fun i a b => if i = sp then S a b else E a b) G Ts tab ds news I hmix hm (by simpa using hds) full hfull hc hcl htl hrefl htrans hsize ?_ ?_ hI (by simpa using hstep) (fun vs w' h1 h2 h3 h4 => wpOps_tail hm (by simpa using hend vs w' h1 h2 h3 h4))
  · intro i x y h
    split at h
    · exact hSG _ _ h
    · exact hEG _ _ h
  · intro vs j i w w' hj hi hn hne h hR
    unfold tell at *
    split at hR
    · rename_i e
      subst e
      refine hst2 j (fun e => hne e.symm) ?_ _ _ _ h hR
      rw [Bool.eq_false_iff]
      intro hcon
      exact hn (by simpa using hcon)
    · exact hst j _ _ _ h hR
end Go.Proofs.YtmjonmoagpkdiabGreatDoor.Rg
