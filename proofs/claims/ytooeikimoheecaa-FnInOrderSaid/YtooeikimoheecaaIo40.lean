
/- What InOrderLaw rests on, part 40: contracts and mathematics. -/
import Derived.Test.YtooeikimoheecaaIo37
import Derived.Test.YtooeikimoheecaaIo35
import Derived.Test.YtooeikimoheecaaIo18
namespace Go.Proofs.Ytooeikimoheecaa
set_option maxRecDepth 100000
/-- A leg of a route. -/
structure LegD where
  sure : List WindowD
  mins : Int
  wait : Bool
def legOf (f : ForecastD) (d : ChartD) (s : ShipD) (i p : Int) : LegD := ⟨startsL false f d i s, minOn d i s, waitAt d p⟩
def legsL (f : ForecastD) (d : ChartD) (s : ShipD) (pts route : List Int) : List LegD := (route.zip pts).map (fun x => legOf f d s x.1 x.2)
theorem legsL_len {f : ForecastD} {d : ChartD} {s : ShipD} {pts route : List Int} (h : route.length ≤ pts.length) : (legsL f d s pts route).length = route.length := by
  unfold legsL; rw [List.length_map, List.length_zip]; omega
theorem legsL_at {f : ForecastD} {d : ChartD} {s : ShipD} {pts route : List Int} {k : Nat} {i p : Int} (hi : route[k]? = some i) (hp : pts[k]? = some p) : (legsL f d s pts route)[k]? = some (legOf f d s i p) := by
  unfold legsL
  rw [List.getElem?_map, List.getElem?_zip_eq_some.2 (show route[k]? = some (i, p).1 ∧ pts[k]? = some (i, p).2 from ⟨hi, hp⟩)]
  rfl
/-- The starts on the first k legs, and the arrival behind them. -/
def runTo (legs : List LegD) (st : Int) : Nat → Option (List Int × Int)
  | 0 => some ([], st)
  | k + 1 => match runTo legs st k, legs[k]? with
    | some (out, a), some l => if nextI l.sure a < 0 then none else if a < nextI l.sure a ∧ l.wait = false then none else some (out ++ [nextI l.sure a], nextI l.sure a + l.mins)
    | _, _ => none
theorem runTo_next {legs : List LegD} {st : Int} {k : Nat} {out : List Int} {a : Int} {l : LegD} (h : runTo legs st k = some (out, a)) (hl : legs[k]? = some l) :
    runTo legs st (k + 1) = if nextI l.sure a < 0 then none else if a < nextI l.sure a ∧ l.wait = false then none else some (out ++ [nextI l.sure a], nextI l.sure a + l.mins) := by
  unfold runTo; rw [h, hl]
theorem runTo_stop {legs : List LegD} {st : Int} {k : Nat} (h : runTo legs st k = none) : ∀ n, runTo legs st (k + n) = none
  | 0 => h
  | n + 1 => by
    have ih := runTo_stop h n
    rw [show k + (n + 1) = (k + n) + 1 by omega]
    unfold runTo
    rw [ih]
theorem runTo_none {legs : List LegD} {st : Int} {k : Nat} (h : runTo legs st k = none) (n : Nat) (hn : k ≤ n) : runTo legs st n = none := by
  obtain ⟨j, rfl⟩ : ∃ j, n = k + j := ⟨n - k, by omega⟩
  exact runTo_stop h j
theorem runTo_split {legs : List LegD} {st : Int} {k : Nat} {out : List Int} {b : Int} (h : runTo legs st (k + 1) = some (out, b)) :
    ∃ o a l, runTo legs st k = some (o, a) ∧ legs[k]? = some l ∧ ¬ (nextI l.sure a < 0) ∧ ¬ (a < nextI l.sure a ∧ l.wait = false) ∧ out = o ++ [nextI l.sure a] ∧ b = nextI l.sure a + l.mins := by
  unfold runTo at h
  cases h1 : runTo legs st k with
  | none => rw [h1] at h; cases h
  | some q =>
    obtain ⟨o, a⟩ := q
    cases h2 : legs[k]? with
    | none => rw [h1, h2] at h; cases h
    | some l =>
      rw [h1, h2] at h
      simp only at h
      split at h
      · cases h
      · split at h
        · cases h
        · rename_i n1 n2
          injection h with e
          injection e with e1 e2
          exact ⟨o, a, l, rfl, rfl, n1, n2, e1.symm, e2.symm⟩
/-- The arrival stays within reach of the last minute. -/
theorem runTo_bnd {legs : List LegD} {st : Int} (hs : 0 ≤ st ∧ st ≤ 2880) (hm : ∀ l ∈ legs, 0 ≤ l.mins ∧ l.mins ≤ 480) : ∀ k {out : List Int} {b : Int}, runTo legs st k = some (out, b) → 0 ≤ b ∧ b ≤ 3360
  | 0, out, b, h => by unfold runTo at h; injection h with e; injection e with e1 e2; omega
  | k + 1, out, b, h => by
    obtain ⟨o, a, l, h1, hl, n1, -, -, e⟩ := runTo_split h
    have := hm l (List.mem_of_getElem? hl)
    have := next_le (l := l.sure) (t := a) (by omega)
    omega
/-- A later start does not arrive earlier. -/
theorem runTo_mono {legs : List LegD} {st st' : Int} (hab : st ≤ st') : ∀ k {x y : List Int} {a b : Int}, runTo legs st k = some (x, a) → runTo legs st' k = some (y, b) → a ≤ b
  | 0, x, y, a, b, hx, hy => by
    unfold runTo at hx hy
    injection hx with e; injection e with _ e1
    injection hy with e; injection e with _ e2
    omega
  | k + 1, x, y, a, b, hx, hy => by
    obtain ⟨o, m, l, h1, hl, n1, -, -, e1⟩ := runTo_split hx
    obtain ⟨o', m', l', h1', hl', n1', -, -, e1'⟩ := runTo_split hy
    rw [hl] at hl'
    injection hl' with e
    subst e
    have ih := runTo_mono hab k h1 h1'
    have := (next_mono (l := l.sure) ih (by omega)).2
    omega
/-- Where a leg has no minute left, no later start goes on. -/
theorem runTo_dead {legs : List LegD} {st st' : Int} {k n : Nat} {out : List Int} {a : Int} {l : LegD} (hab : st ≤ st') (h : runTo legs st k = some (out, a)) (hl : legs[k]? = some l) (hd : nextI l.sure a < 0) (hk : k < n) : runTo legs st' n = none := by
  refine runTo_none (k := k + 1) ?_ n (by omega)
  cases h1 : runTo legs st' k with
  | none => exact runTo_stop h1 1
  | some q =>
    obtain ⟨o', a'⟩ := q
    rw [runTo_next h1 hl]
    have ih := runTo_mono hab k h h1
    refine if_pos ?_
    rcases Int.lt_or_le (nextI l.sure a') 0 with hc | hc
    · exact hc
    · have := (next_mono ih hc).1
      omega
/-- What a search among the starts from first to last finds. -/
def Found (L : List WindowD) (legs : List LegD) (first last : Int) (r : Option (List Int)) : Prop :=
  match r with
  | none => ∀ m, first ≤ m → m ≤ last → hasB L m = true → runTo legs m legs.length = none
  | some out => ∃ m a, first ≤ m ∧ m ≤ last ∧ hasB L m = true ∧ runTo legs m legs.length = some (out, a) ∧ ∀ m', first ≤ m' → m' < m → hasB L m' = true → runTo legs m' legs.length = none
/-- No start before q goes through. -/
def Past (L : List WindowD) (legs : List LegD) (first q : Int) : Prop := ∀ m, first ≤ m → m < q → hasB L m = true → runTo legs m legs.length = none
theorem Past.zero (L : List WindowD) (legs : List LegD) (first : Int) : Past L legs first first := fun m h1 h2 => by omega
theorem next_gap {L : List WindowD} (hw : WOk L) {q : Int} {m : Int} (hm : hasB L m = true) (hq : q ≤ m) : 0 ≤ nextI L q ∧ nextI L q ≤ m := by
  unfold hasB at hm
  rw [List.any_eq_true] at hm
  obtain ⟨y, hy, hb⟩ := hm
  have hb' : y.fr ≤ m ∧ m ≤ y.tt := of_decide_eq_true (show decide (y.fr ≤ m ∧ m ≤ y.tt) = true from hb)
  have hwb := hw.to
  have hyv := hw.1 y hy
  obtain ⟨x, hx⟩ : ∃ x, L.find? (fun x => decide (q ≤ x.tt)) = some x := by
    cases hf : L.find? (fun x => decide (q ≤ x.tt)) with
    | some x => exact ⟨x, rfl⟩
    | none =>
      rw [List.find?_eq_none] at hf
      exact absurd (decide_eq_true (show q ≤ y.tt by omega)) (hf y hy)
  have en : nextI L q = max q x.fr := by unfold nextI; rw [if_pos hwb, hx]
  have hx1 : q ≤ x.tt := by have := List.find?_some hx; simpa using this
  have hxv := hw.1 x (List.mem_of_find?_eq_some hx)
  rw [en]
  refine ⟨by omega, ?_⟩
  obtain ⟨us, bs, el, hn⟩ := (List.find?_eq_some_iff_append.1 hx).2
  have hp := hw.2
  rw [el] at hp hy
  rcases List.mem_append.1 hy with h1 | h1
  · have := hn y h1
    simp only [Bool.not_eq_true', decide_eq_false_iff_not] at this
    omega
  · rcases List.mem_cons.1 h1 with rfl | h1
    · omega
    · have := (List.pairwise_cons.1 (List.pairwise_append.1 hp).2.1).1 y h1
      omega
theorem next_has {L : List WindowD} {q : Int} (h : 0 ≤ nextI L q) : hasB L (nextI L q) = true ∧ q ≤ nextI L q ∧ nextI L q ≤ 2880 := by
  obtain ⟨hw, x, hx, ht, e, -⟩ := next_facts h
  have hxv := hw.1 x hx
  refine ⟨?_, next_ge h, next_le h⟩
  unfold hasB
  rw [List.any_eq_true]
  refine ⟨x, hx, ?_⟩
  show decide (x.fr ≤ nextI L q ∧ nextI L q ≤ x.tt) = true
  rw [e]
  exact decide_eq_true (by omega)
theorem next_self {L : List WindowD} (hw : WOk L) {m : Int} (hm : hasB L m = true) : nextI L m = m := by
  have h1 := next_gap hw hm (Int.le_refl m)
  have h2 := next_ge h1.1
  omega
/-- The next start to be tried. -/
theorem Past.next {L : List WindowD} {legs : List LegD} {first q : Int} (hw : WOk L) (h : Past L legs first q) : Past L legs first (nextI L q) := fun m h1 h2 hm => by
  rcases Int.lt_or_le m q with hc | hc
  · exact h m h1 hc hm
  · have := next_gap hw hm hc
    omega
theorem Past.end {L : List WindowD} {legs : List LegD} {first last q : Int} (hw : WOk L) (h : Past L legs first q) (he : nextI L q < 0 ∨ last < nextI L q) : Found L legs first last none := fun m h1 h2 hm => by
  rcases Int.lt_or_le m q with hc | hc
  · exact h m h1 hc hm
  · have := next_gap hw hm hc
    omega
theorem Past.skip {L : List WindowD} {legs : List LegD} {first st : Int} (h : Past L legs first st) (hn : runTo legs st legs.length = none) : Past L legs first (st + 1) := fun m h1 h2 hm => by
  rcases Int.lt_or_le m st with hc | hc
  · exact h m h1 hc hm
  · obtain rfl : m = st := by omega
    exact hn
theorem Past.dead {L : List WindowD} {legs : List LegD} {first last st : Int} {k : Nat} {out : List Int} {a : Int} {l : LegD} (h : Past L legs first st) (hr : runTo legs st k = some (out, a)) (hl : legs[k]? = some l) (hd : nextI l.sure a < 0) : Found L legs first last none := fun m h1 h2 hm => by
  rcases Int.lt_or_le m st with hc | hc
  · exact h m h1 hc hm
  · exact runTo_dead hc hr hl hd (List.getElem?_eq_some_iff.1 hl).1
theorem Past.hit {L : List WindowD} {legs : List LegD} {first last st : Int} {out : List Int} {a : Int} (h : Past L legs first st) (h1 : first ≤ st) (h2 : st ≤ last) (hm : hasB L st = true) (hr : runTo legs st legs.length = some (out, a)) : Found L legs first last (some out) :=
  ⟨st, a, h1, h2, hm, hr, h⟩
/-- The legs of a valid route are sailed as the route is. -/
theorem run_sail {f : ForecastD} {d : ChartD} {s : ShipD} {fr : Int} {route : List Int} {st : Int} (hs : shipB s = true) (hr : routeB d fr route = true) (h0 : hasB ((winsL f d s route).getD 0 []) st = true) :
    ∀ k, k < route.length → (match runTo (legsL f d s (rteL d fr route) route) st (k + 1), sailTo d s (rteL d fr route) route (winsL f d s route) st (k + 1) with
      | some (o, a), some o' => o = o' ∧ a = o.getD k 0 + onSeg d s (route.getD k 0)
      | none, none => True
      | _, _ => False) := by
  obtain ⟨hc, hpl, hpin, hsin⟩ := route_facts hr
  have hlegs : ∀ j, j < route.length → ∃ i p g, route[j]? = some i ∧ (rteL d fr route)[j]? = some p ∧ segAt d i = some g ∧ (legsL f d s (rteL d fr route) route)[j]? = some ⟨startsL false f d i s, onMin g s, waitAt d p⟩ := fun j hj => by
    obtain ⟨i, hi⟩ : ∃ i, route[j]? = some i := ⟨_, List.getElem?_eq_getElem hj⟩
    obtain ⟨p, hp⟩ : ∃ p, (rteL d fr route)[j]? = some p := ⟨_, List.getElem?_eq_getElem (by omega)⟩
    obtain ⟨g, hg, -⟩ := hsin i (List.mem_of_getElem? hi)
    refine ⟨i, p, g, hi, hp, hg, ?_⟩
    rw [legsL_at hi hp]
    unfold legOf
    rw [minOn_ok hc hs hg]
  intro k
  induction k with
  | zero =>
    intro hk
    obtain ⟨i, p, g, hi, hp, hg, hl⟩ := hlegs 0 hk
    have hwk : WOk (startsL false f d i s) := starts_wok false f d i s
    have hw0 : (winsL f d s route).getD 0 [] = startsL false f d i s := by
      unfold winsL
      rw [List.getD_eq_getElem?_getD, List.getElem?_map, hi]; rfl
    rw [hw0] at h0
    have hn := next_self hwk h0
    have hst := Has.time hwk ((has_iff _ _).1 h0)
    rw [runTo_next (k := 0) (legs := legsL f d s (rteL d fr route) route) (st := st) rfl hl]
    simp only [hn]
    rw [if_neg (by omega), if_neg (by omega)]
    unfold sailTo
    rw [hw0, if_pos h0]
    simp only [List.getD_eq_getElem?_getD, hi, Option.getD_some, onSeg, hg]
    simp
  | succ k ih =>
    intro hk
    have ih := ih (by omega)
    obtain ⟨i, p, g, hi, hp, hg, hl⟩ := hlegs (k + 1) hk
    obtain ⟨i', p', g', hi', hp', hg', hl'⟩ := hlegs k (by omega)
    cases h1 : runTo (legsL f d s (rteL d fr route) route) st (k + 1) with
    | none =>
      rw [h1] at ih
      cases h2 : sailTo d s (rteL d fr route) route (winsL f d s route) st (k + 1) with
      | none => rw [runTo_stop h1 1, sailTo_stop h2 1]; trivial
      | some o => rw [h2] at ih; exact ih.elim
    | some q =>
      obtain ⟨o, a⟩ := q
      rw [h1] at ih
      cases h2 : sailTo d s (rteL d fr route) route (winsL f d s route) st (k + 1) with
      | none => rw [h2] at ih; exact ih.elim
      | some o' =>
        rw [h2] at ih
        obtain ⟨e1, e2⟩ := ih
        subst e1
        have hol := sailTo_len _ h2
        obtain ⟨m, hm⟩ : ∃ m, o[k]? = some m := ⟨_, List.getElem?_eq_getElem (by omega)⟩
        have hW : (winsL f d s route)[k + 1]? = some (startsL false f d i s) := by unfold winsL; rw [List.getElem?_map, hi]; rfl
        rw [runTo_next h1 hl, sailTo_next h2 hm hp hW hi' hg']
        have ea : a = m + onMin g' s := by
          rw [e2]
          simp only [List.getD_eq_getElem?_getD, hm, hi', Option.getD_some, onSeg, hg']
        rw [← ea]
        simp only
        unfold goOn
        by_cases c1 : nextI (startsL false f d i s) a < 0
        · rw [if_pos c1, if_pos c1]; trivial
        · rw [if_neg c1, if_neg c1]
          have hge := next_ge (l := startsL false f d i s) (t := a) (by omega)
          by_cases c2 : a < nextI (startsL false f d i s) a ∧ waitAt d p = false
          · rw [if_pos c2, if_pos ⟨by omega, c2.2⟩]; trivial
          · rw [if_neg c2, if_neg (by rintro ⟨n1, n2⟩; exact c2 ⟨by omega, n2⟩)]
            refine ⟨rfl, ?_⟩
            simp only [List.getD_eq_getElem?_getD, hi, Option.getD_some, onSeg, hg]
            rw [List.getElem?_append_right (by omega), hol, Nat.sub_self]
            rfl
theorem run_whole {f : ForecastD} {d : ChartD} {s : ShipD} {fr : Int} {route : List Int} {st : Int} (hp : sailPre f d s fr route = true) (h0 : hasB ((winsL f d s route).getD 0 []) st = true) :
    sailO f d s fr route st = (runTo (legsL f d s (rteL d fr route) route) st route.length).map (·.1) := by
  rw [sailO_ok hp]
  unfold sailPre at hp
  simp only [Bool.and_eq_true, Bool.not_eq_true'] at hp
  obtain ⟨⟨⟨-, hs⟩, hr⟩, hne⟩ := hp
  obtain ⟨n, hn⟩ : ∃ n, route.length = n + 1 := by
    cases route with
    | nil => cases hne
    | cons x l => exact ⟨l.length, rfl⟩
  have h := run_sail hs hr h0 n (by omega)
  rw [hn]
  cases h1 : runTo (legsL f d s (rteL d fr route) route) st (n + 1) with
  | none =>
    cases h2 : sailTo d s (rteL d fr route) route (winsL f d s route) st (n + 1) with
    | none => rfl
    | some o => rw [h1, h2] at h; exact h.elim
  | some q =>
    cases h2 : sailTo d s (rteL d fr route) route (winsL f d s route) st (n + 1) with
    | none => rw [h1, h2] at h; exact h.elim
    | some o => rw [h1, h2] at h; obtain ⟨o', a⟩ := q; obtain ⟨rfl, -⟩ := h; rfl
theorem sailTo_first {d : ChartD} {s : ShipD} {pts route : List Int} {W : List (List WindowD)} {st : Int} (h : hasB (W.getD 0 []) st = false) : ∀ k, sailTo d s pts route W st k = none
  | 0 => rfl
  | k + 1 => by
    have h1 : sailTo d s pts route W st (0 + 1) = none := by show (if hasB (W.getD 0 []) st = true then some [st] else none) = none; rw [h]; rfl
    exact sailTo_none h1 (k + 1) (by omega)
/-- What is found among the starts from first to last is the first sail. -/
theorem found_range {f : ForecastD} {d : ChartD} {s : ShipD} {fr : Int} {route : List Int} (hp : sailPre f d s fr route = true) {r : Option (List Int)} : ∀ (n : Nat) (m : Int),
    Found ((winsL f d s route).getD 0 []) (legsL f d s (rteL d fr route) route) m (m + (n : Int) - 1) r → firstO f d s fr route m n = r := by
  have hr : routeB d fr route = true := by unfold sailPre at hp; simp only [Bool.and_eq_true] at hp; exact hp.1.2
  have hll : (legsL f d s (rteL d fr route) route).length = route.length := legsL_len (by have := (route_facts hr).2.1; omega)
  intro n
  induction n with
  | zero =>
    intro m h
    cases r with
    | none => rfl
    | some out =>
      obtain ⟨m', a, h1, h2, -⟩ := h
      omega
  | succ n ih =>
    intro m h
    unfold firstO
    cases h0 : hasB ((winsL f d s route).getD 0 []) m with
    | false =>
      have e : sailO f d s fr route m = none := by rw [sailO_ok hp]; exact sailTo_first h0 _
      rw [e]
      refine ih (m + 1) ?_
      cases r with
      | none => exact fun m' h1 h2 hm => h m' (by omega) (by omega) hm
      | some out =>
        obtain ⟨m', a, h1, h2, hm, hrn, hl⟩ := h
        have : m' ≠ m := fun e => by rw [e, h0] at hm; cases hm
        exact ⟨m', a, by omega, by omega, hm, hrn, fun x h3 h4 => hl x (by omega) h4⟩
    | true =>
      rw [run_whole hp h0]
      cases hq : runTo (legsL f d s (rteL d fr route) route) m route.length with
      | some q =>
        obtain ⟨o, a⟩ := q
        show some o = r
        cases r with
        | none =>
          have := h m (Int.le_refl m) (by omega) h0
          rw [hll, hq] at this
          cases this
        | some out =>
          obtain ⟨m', a', h1, h2, hm, hrn, hl⟩ := h
          rcases Int.lt_or_le m m' with hc | hc
          · have := hl m (Int.le_refl m) hc h0
            rw [hll, hq] at this
            cases this
          · obtain rfl : m' = m := by omega
            rw [hll, hq] at hrn
            injection hrn with e
            injection e with e1 _
            rw [e1]
      | none =>
        show firstO f d s fr route (m + 1) n = r
        refine ih (m + 1) ?_
        cases r with
        | none => exact fun m' h1 h2 hm => h m' (by omega) (by omega) hm
        | some out =>
          obtain ⟨m', a, h1, h2, hm, hrn, hl⟩ := h
          have : m' ≠ m := fun e => by rw [e, hll, hq] at hrn; cases hrn
          exact ⟨m', a, by omega, by omega, hm, hrn, fun x h3 h4 => hl x (by omega) h4⟩
theorem wins_head {f : ForecastD} {d : ChartD} {s : ShipD} {pts route : List Int} {l : LegD} (h : (legsL f d s pts route)[0]? = some l) : (winsL f d s route).getD 0 [] = l.sure := by
  unfold legsL at h
  unfold winsL
  rw [List.getElem?_map] at h
  cases route with
  | nil => simp at h
  | cons i route =>
    cases pts with
    | nil => simp at h
    | cons p pts =>
      simp at h
      rw [← h]
      rfl
theorem found_neg {L : List WindowD} {legs : List LegD} {first last : Int} {r : Option (List Int)} (hw : WOk L) (h : Found L legs first last r) : Found L legs (max 0 first) last r := by
  cases r with
  | none => exact fun m h1 h2 hm => h m (by omega) h2 hm
  | some out =>
    obtain ⟨m, a, h1, h2, hm, hr, hl⟩ := h
    have := (Has.time hw ((has_iff _ _).1 hm)).1
    exact ⟨m, a, by omega, h2, hm, hr, fun x h3 h4 => hl x (by omega) h4⟩
theorem found_first {f : ForecastD} {d : ChartD} {s : ShipD} {fr : Int} {route : List Int} {ready : Int} {r : Option (List Int)} (hp : sailPre f d s fr route = true) (hw : WOk ((winsL f d s route).getD 0 []))
    (h : Found ((winsL f d s route).getD 0 []) (legsL f d s (rteL d fr route) route) ready 2880 r) : firstSail f d s fr route ready = r := by
  unfold firstSail
  refine found_range hp _ _ ?_
  have h1 := found_neg hw h
  rcases Int.lt_or_le 2880 (max 0 ready) with hc | hc
  · rw [show (2881 - max 0 ready).toNat = 0 by omega]
    cases r with
    | none => exact fun m a b => by omega
    | some out => obtain ⟨m, a, b, c, -⟩ := h1; omega
  · rw [show max 0 ready + (((2881 - max 0 ready).toNat : Nat) : Int) - 1 = 2880 by omega]
    exact h1
end Go.Proofs.Ytooeikimoheecaa
