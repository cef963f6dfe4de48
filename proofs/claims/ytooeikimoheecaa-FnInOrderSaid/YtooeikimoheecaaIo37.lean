
/- What InOrderLaw rests on, part 37: contracts and mathematics. -/
import Derived.Test.YtooeikimoheecaaIo35
import Derived.Test.YtooeikimoheecaaIo17
namespace Go.Proofs.Ytooeikimoheecaa
set_option maxRecDepth 100000
theorem next_facts {l : List WindowD} {t : Int} (h : 0 ≤ nextI l t) : WOk l ∧ ∃ x ∈ l, t ≤ x.tt ∧ nextI l t = max t x.fr ∧ l.find? (fun x => decide (t ≤ x.tt)) = some x := by
  unfold nextI at h ⊢
  cases hw : winB l with
  | false => rw [hw] at h; simp at h
  | true =>
    rw [hw] at h
    simp only [if_true] at h ⊢
    cases hf : l.find? (fun x => decide (t ≤ x.tt)) with
    | none => rw [hf] at h; simp at h
    | some x =>
      have h1 := List.find?_some hf
      have h2 := List.mem_of_find?_eq_some hf
      exact ⟨WOk.of hw, x, h2, of_decide_eq_true h1, rfl, rfl⟩
theorem next_ge {l : List WindowD} {t : Int} (h : 0 ≤ nextI l t) : t ≤ nextI l t := by
  obtain ⟨-, x, -, -, e, -⟩ := next_facts h
  rw [e]
  omega
theorem next_le {l : List WindowD} {t : Int} (h : 0 ≤ nextI l t) : nextI l t ≤ 2880 := by
  obtain ⟨hw, x, hx, ht, e, -⟩ := next_facts h
  have := hw.1 x hx
  rw [e]
  omega
/-- A later arrival does not begin earlier. -/
theorem next_mono {l : List WindowD} {t t' : Int} (htt : t ≤ t') (h : 0 ≤ nextI l t') : 0 ≤ nextI l t ∧ nextI l t ≤ nextI l t' := by
  obtain ⟨hw, y, hy, hy1, ey, fy⟩ := next_facts h
  have hwb := hw.to
  have hyv := hw.1 y hy
  obtain ⟨x, hx⟩ : ∃ x, l.find? (fun x => decide (t ≤ x.tt)) = some x := by
    cases hf : l.find? (fun x => decide (t ≤ x.tt)) with
    | some x => exact ⟨x, rfl⟩
    | none =>
      rw [List.find?_eq_none] at hf
      exact absurd (decide_eq_true (show t ≤ y.tt by omega)) (hf y hy)
  have en : nextI l t = max t x.fr := by
    unfold nextI
    rw [if_pos hwb, hx]
  have hx1 : t ≤ x.tt := by have := List.find?_some hx; simpa using this
  have hxm := List.mem_of_find?_eq_some hx
  have hxv := hw.1 x hxm
  rw [en, ey]
  refine ⟨by omega, ?_⟩
  by_cases hc : t' ≤ x.tt
  · -- then x is the first one for t', too
    have : x = y := by
      have hx' := (List.find?_eq_some_iff_append.1 hx).2
      obtain ⟨us, bs, el, hn⟩ := hx'
      have : l.find? (fun x => decide (t' ≤ x.tt)) = some x := by
        rw [List.find?_eq_some_iff_append]
        refine ⟨decide_eq_true hc, us, bs, el, fun a ha => ?_⟩
        have := hn a ha
        simp only [Bool.not_eq_true', decide_eq_false_iff_not] at this ⊢
        omega
      rw [fy] at this
      injection this with e
      exact e.symm
    subst this
    omega
  · omega
theorem goOn_some {d : ChartD} {p m n : Int} {L : List WindowD} (h : goOn d p L m = some n) : nextI L m = n ∧ 0 ≤ n ∧ n ≤ 2880 := by
  unfold goOn at h
  split at h
  · cases h
  · split at h
    · cases h
    · rename_i h1 h2
      injection h with e
      have : 0 ≤ nextI L m := by omega
      have := next_le this
      exact ⟨e, by omega, by omega⟩
theorem sail_split {d : ChartD} {s : ShipD} {pts route : List Int} {W : List (List WindowD)} {start : Int} {k : Nat} {out : List Int} (h : sailTo d s pts route W start (k + 2) = some out) :
    ∃ o n, sailTo d s pts route W start (k + 1) = some o ∧ goOn d (pts.getD (k + 1) 0) (W.getD (k + 1) []) (o.getD k 0 + onSeg d s (route.getD k 0)) = some n ∧ out = o ++ [n] := by
  unfold sailTo at h
  cases h1 : sailTo d s pts route W start (k + 1) with
  | none => rw [h1] at h; cases h
  | some o =>
    rw [h1] at h
    simp only at h
    split at h
    · cases h
    · rename_i n hn
      injection h with e
      exact ⟨o, n, rfl, hn, e.symm⟩
/-- Every start of a sailed route is a minute. -/
theorem sail_in {d : ChartD} {s : ShipD} {pts route : List Int} {W : List (List WindowD)} {start : Int} (hs : 0 ≤ start ∧ start ≤ 2880) : ∀ k {out : List Int}, sailTo d s pts route W start k = some out → ∀ (j : Nat) (m : Int), out[j]? = some m → 0 ≤ m ∧ m ≤ 2880
  | 0, out, h => by cases h
  | 1, out, h => by
    unfold sailTo at h
    split at h
    · injection h with e
      subst e
      intro j m hm
      cases j with
      | zero => simp at hm; subst hm; exact hs
      | succ j => simp at hm
    · cases h
  | k + 2, out, h => by
    obtain ⟨o, n, ho, hn, rfl⟩ := sail_split h
    obtain ⟨-, n0, n1⟩ := goOn_some hn
    intro j m hm
    by_cases hj : j < o.length
    · rw [List.getElem?_append_left hj] at hm
      exact sail_in hs (k + 1) ho j m hm
    · rw [List.getElem?_append_right (by omega)] at hm
      cases hz : j - o.length with
      | zero => rw [hz] at hm; simp at hm; subst hm; exact ⟨n0, n1⟩
      | succ q => rw [hz] at hm; simp at hm
/-- The starts of a later start are not earlier. -/
theorem sail_mono {d : ChartD} {s : ShipD} {pts route : List Int} {W : List (List WindowD)} {a b : Int} (hab : a ≤ b) : ∀ k {x y : List Int}, sailTo d s pts route W a k = some x → sailTo d s pts route W b k = some y → ∀ j, x.getD j 0 ≤ y.getD j 0
  | 0, x, y, h, _ => by cases h
  | 1, x, y, hx, hy => by
    unfold sailTo at hx hy
    split at hx
    · split at hy
      · injection hx with e
        injection hy with e'
        subst e e'
        intro j
        cases j with
        | zero => simpa using hab
        | succ j => simp
      · cases hy
    · cases hx
  | k + 2, x, y, hx, hy => by
    obtain ⟨o, n, ho, hn, rfl⟩ := sail_split hx
    obtain ⟨o', n', ho', hn', rfl⟩ := sail_split hy
    have ih := sail_mono hab (k + 1) ho ho'
    have l1 := sailTo_len _ ho
    have l2 := sailTo_len _ ho'
    obtain ⟨e1, a0, -⟩ := goOn_some hn
    obtain ⟨e2, b0, -⟩ := goOn_some hn'
    have hm := next_mono (l := W.getD (k + 1) []) (t := o.getD k 0 + onSeg d s (route.getD k 0)) (t' := o'.getD k 0 + onSeg d s (route.getD k 0)) (by have := ih k; omega) (by rw [e2]; exact b0)
    rw [e1, e2] at hm
    intro j
    simp only [List.getD_eq_getElem?_getD] at ih ⊢
    by_cases hj : j < k + 1
    · rw [List.getElem?_append_left (by omega), List.getElem?_append_left (by omega)]
      exact ih j
    · by_cases hj2 : j = k + 1
      · subst hj2
        rw [List.getElem?_append_right (by omega), List.getElem?_append_right (by omega), l1, l2]
        simpa using hm.2
      · rw [List.getElem?_eq_none (by simp; omega), List.getElem?_eq_none (by simp; omega)]
        exact Int.le_refl _
theorem sailO_facts {f : ForecastD} {d : ChartD} {s : ShipD} {fr : Int} {route : List Int} {start : Int} {out : List Int} (h : sailO f d s fr route start = some out) : sailPre f d s fr route = true ∧ sailTo d s (rteL d fr route) route (winsL f d s route) start route.length = some out ∧ out.length = route.length := by
  unfold sailO at h
  split at h
  · rename_i hp
    exact ⟨hp, h, sailTo_len _ h⟩
  · cases h
theorem firstO_some {f : ForecastD} {d : ChartD} {s : ShipD} {fr : Int} {route : List Int} : ∀ (n : Nat) (m : Int) {out : List Int}, firstO f d s fr route m n = some out → ∃ a, m ≤ a ∧ a < m + (n : Int) ∧ sailO f d s fr route a = some out
  | 0, m, out, h => by cases h
  | n + 1, m, out, h => by
    unfold firstO at h
    cases hs : sailO f d s fr route m with
    | some o =>
      rw [hs] at h
      injection h with e
      subst e
      exact ⟨m, Int.le_refl _, by omega, hs⟩
    | none =>
      rw [hs] at h
      obtain ⟨a, h1, h2, h3⟩ := firstO_some n (m + 1) h
      exact ⟨a, by omega, by omega, h3⟩
theorem firstO_has {f : ForecastD} {d : ChartD} {s : ShipD} {fr : Int} {route : List Int} : ∀ (n : Nat) (m a : Int) {out : List Int}, m ≤ a → a < m + (n : Int) → sailO f d s fr route a = some out → ∃ b o, m ≤ b ∧ b ≤ a ∧ sailO f d s fr route b = some o ∧ firstO f d s fr route m n = some o
  | 0, m, a, out, h1, h2, _ => by omega
  | n + 1, m, a, out, h1, h2, h3 => by
    unfold firstO
    cases hs : sailO f d s fr route m with
    | some o => exact ⟨m, o, Int.le_refl _, h1, hs, rfl⟩
    | none =>
      have : m ≠ a := fun e => by subst e; rw [hs] at h3; cases h3
      obtain ⟨b, o, b1, b2, b3, b4⟩ := firstO_has n (m + 1) a (by omega) (by omega) h3
      exact ⟨b, o, by omega, b2, b3, b4⟩
/-- A later first sail: the earlier one exists, and does not arrive later. -/
theorem first_order {f : ForecastD} {d : ChartD} {s : ShipD} {fr : Int} {route : List Int} {r1 r2 : Int} {y : List Int} (h12 : r1 ≤ r2) (hy : firstSail f d s fr route r2 = some y) :
    ∃ x, firstSail f d s fr route r1 = some x ∧ x.length = route.length ∧ y.length = route.length ∧ arrI d s route x ≤ arrI d s route y := by
  obtain ⟨b, b1, b2, hb⟩ := firstO_some _ _ hy
  obtain ⟨a, x, a1, a2, ha, hx⟩ := firstO_has (2881 - max 0 r1).toNat (max 0 r1) b (by omega) (by omega) hb
  obtain ⟨-, sa, la⟩ := sailO_facts ha
  obtain ⟨-, sb, lb⟩ := sailO_facts hb
  refine ⟨x, hx, la, lb, ?_⟩
  have mono := sail_mono (a := a) (b := b) a2 _ sa sb
  have ia := sail_in (by omega) _ sa
  have ib := sail_in (by omega) _ sb
  have lx : x.getLast?.getD 0 ≤ y.getLast?.getD 0 := by
    have := mono (route.length - 1)
    rw [List.getLast?_eq_getElem?, List.getLast?_eq_getElem?, la, lb]
    simpa [List.getD_eq_getElem?_getD] using this
  by_cases hr : route = []
  · rw [arrI_no (by rintro ⟨-, -, -, -, h, -⟩; exact h hr), arrI_no (by rintro ⟨-, -, -, -, h, -⟩; exact h hr)]
    exact Int.le_refl _
  · have rp : 0 < route.length := by
      cases route with
      | nil => exact absurd rfl hr
      | cons => simp
    have gx : inB (x.getLast?.getD 0) 0 2880 = true := by
      obtain ⟨m, hm⟩ : ∃ m, x[route.length - 1]? = some m := ⟨_, List.getElem?_eq_getElem (by omega)⟩
      rw [List.getLast?_eq_getElem?, la, hm]
      exact inB_mk (ia _ m hm).1 (ia _ m hm).2
    have gy : inB (y.getLast?.getD 0) 0 2880 = true := by
      obtain ⟨m, hm⟩ : ∃ m, y[route.length - 1]? = some m := ⟨_, List.getElem?_eq_getElem (by omega)⟩
      rw [List.getLast?_eq_getElem?, lb, hm]
      exact inB_mk (ib _ m hm).1 (ib _ m hm).2
    by_cases hc : chartB d = true ∧ shipB s = true ∧ (minSum d route).isSome = true
    · obtain ⟨c1, c2, c3⟩ := hc
      have ex : arrI d s route x = x.getLast?.getD 0 + onSeg d s (route.getLast?.getD 0) := if_pos ⟨c1, c2, c3, la.symm, hr, gx⟩
      have ey : arrI d s route y = y.getLast?.getD 0 + onSeg d s (route.getLast?.getD 0) := if_pos ⟨c1, c2, c3, lb.symm, hr, gy⟩
      rw [ex, ey]
      omega
    · rw [arrI_no (by rintro ⟨h1, h2, h3, -⟩; exact hc ⟨h1, h2, h3⟩), arrI_no (by rintro ⟨h1, h2, h3, -⟩; exact hc ⟨h1, h2, h3⟩)]
      exact Int.le_refl _
end Go.Proofs.Ytooeikimoheecaa
