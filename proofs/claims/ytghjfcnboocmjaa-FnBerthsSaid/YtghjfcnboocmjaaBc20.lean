
/- What ExactFreeTimes and BerthsLaw rests on, part 20: contracts and mathematics. -/
import Derived.Test.YtghjfcnboocmjaaBc19
namespace Go.Proofs.Ytghjfcnboocmjaa
open Go.RowKit
set_option maxRecDepth 100000
/-- The stays that AllotBerths gives, or none. -/
def allotted (bs : List BerthD) (fl : List ShipD) (asks : List StayD) : List StayD := (allotO bs fl asks).getD []
theorem allotted_ok {bs : List BerthD} {fl : List ShipD} {asks : List StayD} (h1 : berthsB bs = true) (h2 : fleetB fl = true) : staysB bs fl (allotted bs fl asks) = true ∧ (allotted bs fl asks).length ≤ asks.length ∧ ∀ (k : Nat) x, (allotted bs fl asks)[k]? = some x → ∃ a, asks[k]? = some a ∧ Asked x a := by
  unfold allotted
  cases h : allotO bs fl asks with
  | none => exact ⟨staysB_mk h1 h2 (Nat.zero_le _) rfl, Nat.zero_le _, fun k x hx => by simp at hx⟩
  | some out =>
    obtain ⟨a1, a2, a3⟩ := allotO_some h
    refine ⟨a1, by show out.length ≤ _; omega, fun k x hx => ?_⟩
    have hx : out[k]? = some x := hx
    obtain ⟨a, ha⟩ : ∃ a, asks[k]? = some a := ⟨_, List.getElem?_eq_getElem (by have := (List.getElem?_eq_some_iff.1 hx).1; omega)⟩
    exact ⟨a, ha, a3 k a x ha hx⟩
theorem allotted_len {bs : List BerthD} {fl : List ShipD} {asks : List StayD} (h : (allotO bs fl asks).isSome = true) : (allotted bs fl asks).length = asks.length := by
  obtain ⟨out, ho⟩ := Option.isSome_iff_exists.1 h
  unfold allotted
  rw [ho]
  exact (allotO_some ho).2.1
theorem allotted_none {bs : List BerthD} {fl : List ShipD} {asks : List StayD} (h : (allotO bs fl asks).isSome = false) : (allotted bs fl asks).length = 0 := by
  unfold allotted
  cases e : allotO bs fl asks with
  | none => rfl
  | some out => rw [e] at h; cases h
theorem stays_wf {bs : List BerthD} {fl : List ShipD} {l : List StayD} (h : staysB bs fl l = true) : ∀ x ∈ l, StayD.wf x := by
  intro x hx
  obtain ⟨i, hi⟩ := List.getElem?_of_mem hx
  obtain ⟨h1, h2, h3, -⟩ := stayB_true (staysB_at h hi).1
  obtain ⟨hb, hf, -, -⟩ := staysB_all h
  have h4 := berthsB_len hb
  have h6 := (fleetB_true hf).1
  refine ⟨?_, ?_, ?_, ?_⟩ <;> exact WalkArith.wf_i64 (by omega)
theorem sumS_le {bs : List BerthD} {fl : List ShipD} {l : List StayD} (h : staysB bs fl l = true) : ∀ k, k ≤ l.length → 0 ≤ sumS (l.take k) ∧ sumS (l.take k) ≤ 2880 * (k : Int)
  | 0, _ => by simp [sumS]
  | k + 1, hk => by
    obtain ⟨s, hs⟩ : ∃ s, l[k]? = some s := ⟨_, List.getElem?_eq_getElem (by omega)⟩
    have ih := sumS_le h k (by omega)
    have ht := (stayB_true (staysB_at h hs).1).2.2.1
    rw [sumS_next hs]
    push_cast
    omega
theorem load_bound (l : List StayD) (b : Int) : 0 ≤ loadI l b ∧ loadI l b ≤ 2880 * (l.length : Int) := by
  have h := loadI_le l b l.length
  rwa [List.take_length] at h
theorem loads_le (l : List StayD) : ∀ n : Nat, 0 ≤ sumTo (fun b => loadI l (b : Int)) n ∧ sumTo (fun b => loadI l (b : Int)) n ≤ 2880 * (l.length : Int) * (n : Int)
  | 0 => by simp [sumTo]
  | n + 1 => by
    have ih := loads_le l n
    have hb := load_bound l (n : Int)
    show 0 ≤ sumTo (fun b => loadI l (b : Int)) n + loadI l (n : Int) ∧ sumTo (fun b => loadI l (b : Int)) n + loadI l (n : Int) ≤ _
    push_cast
    rw [Int.mul_add]
    omega
theorem frees_le {bs : List BerthD} {fl : List ShipD} {l : List StayD} (h : staysB bs fl l = true) : ∀ n : Nat, n ≤ bs.length → sumTo (fun b => countI (freeL bs l (b : Int))) n = 2881 * (n : Int) - sumTo (fun b => loadI l (b : Int)) n
  | 0, _ => rfl
  | n + 1, hn => by
    have ih := frees_le h n (by omega)
    have hc := free_count h (show n < bs.length by omega)
    show sumTo (fun b => countI (freeL bs l (b : Int))) n + countI (freeL bs l (n : Int)) = 2881 * ((n + 1 : Nat) : Int) - (sumTo (fun b => loadI l (b : Int)) n + loadI l (n : Int))
    rw [ih, hc]
    push_cast
    omega
theorem find_fit {bs : List BerthD} {fl : List ShipD} {z : Int} (h : findI bs fl [] 0 10 20 = z) : z < 0 ∨ ∃ (j : Nat) (b : BerthD) (s : ShipD), z = (j : Int) ∧ bs[j]? = some b ∧ fl[0]? = some s ∧ fitB b s = true := by
  unfold findI at h
  split at h
  · unfold firstI at h
    cases e : ((List.range bs.length).map (fun b : Nat => (b : Int))).findIdx? (fun b => staysB bs fl ([] ++ [⟨0, b, 10, 20⟩])) with
    | none => rw [e] at h; left; have h : (-1 : Int) = z := h; omega
    | some i =>
      rw [e] at h
      have h : (i : Int) = z := h
      right
      rw [List.findIdx?_eq_some_iff_getElem] at e
      obtain ⟨hi, hp, -⟩ := e
      rw [List.length_map, List.length_range] at hi
      rw [List.getElem_map, List.getElem_range, List.nil_append] at hp
      obtain ⟨h1, -⟩ := staysB_at hp (i := 0) rfl
      obtain ⟨hs, hb, -, hf⟩ := stayB_true h1
      have hs0 : 0 < fl.length := by have := hs.2; show 0 < fl.length; have : (0 : Int) < fl.length := this; omega
      refine ⟨i, bs[i], fl[0], h.symm, List.getElem?_eq_getElem hi, List.getElem?_eq_getElem hs0, ?_⟩
      unfold fitAt at hf
      have e1 : bs[((i : Int)).toNat]? = some bs[i] := by rw [Int.toNat_natCast]; exact List.getElem?_eq_getElem hi
      have e2 : fl[((0 : Int)).toNat]? = some fl[0] := List.getElem?_eq_getElem hs0
      simp only at hf
      rw [e1, e2] at hf
      exact hf
  · left; omega
end Go.Proofs.Ytghjfcnboocmjaa
