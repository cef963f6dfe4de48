
/- slices.SortFunc over windows by their first minutes: contract. -/
import Derived.Test.YtmjdlkninibocaaSortShelf
import Derived.Test.YtmjdlkninibocaaWinParts
import Derived.Shelf.SlSortCmp.NoneTotal
namespace Go.Proofs.Ytmjdlkninibocaa
open Go.RowKit Go.Shelf Go.Sort
set_option maxRecDepth 100000

instance : Inhabited WindowD := ⟨⟨0, 0⟩⟩
def cmpI (a b : Int) : Int := if a < b then -1 else if b < a then 1 else 0
theorem isNaN_any (a : Int) (w : World) : Calls Try.prog 59 #[.int .i64 a] w fun e w' => e = .returned (.bool false) ∧ w' = w := by
  go_enter Try.func59, Try.ntmps59
  go_wp2
  go_ret
  exact ⟨rfl, rfl⟩
set_option maxHeartbeats 2000000 in
theorem compare_any (a b : Int) (w : World) : Calls Try.prog 47 #[.int .i64 a, .int .i64 b] w fun e w' => e = .returned (.int .i64 (cmpI a b)) ∧ w' = w := by
  by_cases h1 : a < b
  · have E := Lib.hid (show cmpI a b = -1 by unfold cmpI; rw [if_pos h1])
    go_enter Try.func47, Try.ntmps47
    go_wp2_with fail
    refine (isNaN_any _ _).mono ?_
    rintro e w1 ⟨rfl, rfl⟩
    go_wp2_with fail
    refine (isNaN_any _ _).mono ?_
    rintro e w2 ⟨rfl, rfl⟩
    go_wp2
    go_ret
    exact ⟨ret_int E.out.symm, rfl⟩
  · by_cases h2 : b < a
    · have E := Lib.hid (show cmpI a b = 1 by unfold cmpI; rw [if_neg h1, if_pos h2])
      go_enter Try.func47, Try.ntmps47
      go_wp2_with fail
      refine (isNaN_any _ _).mono ?_
      rintro e w1 ⟨rfl, rfl⟩
      go_wp2_with fail
      refine (isNaN_any _ _).mono ?_
      rintro e w2 ⟨rfl, rfl⟩
      go_wp2
      go_ret
      exact ⟨ret_int E.out.symm, rfl⟩
    · have E := Lib.hid (show cmpI a b = 0 by unfold cmpI; rw [if_neg h1, if_neg h2])
      go_enter Try.func47, Try.ntmps47
      go_wp2_with fail
      refine (isNaN_any _ _).mono ?_
      rintro e w1 ⟨rfl, rfl⟩
      go_wp2_with fail
      refine (isNaN_any _ _).mono ?_
      rintro e w2 ⟨rfl, rfl⟩
      go_wp2
      go_ret
      exact ⟨ret_int E.out.symm, rfl⟩
set_option maxHeartbeats 2000000 in
theorem compareFroms_any (x y : WindowD) (W : World) : Calls Try.prog 29 #[.agg #[.int .i64 x.fr, .int .i64 x.tt], .agg #[.int .i64 y.fr, .int .i64 y.tt]] W fun e w' => e = .returned (.int .i64 (cmpI x.fr y.fr)) ∧ ∃ q os', w' = grow (W.drewN q) os' := by
  go_enter Try.func29, Try.ntmps29
  go_wp2_with fail
  refine (compare_any _ _ _).mono ?_
  rintro e w1 ⟨rfl, rfl⟩
  go_wp2
  go_ret
  exact ⟨rfl, 0, _, by rw [alloc_eq_grow, alloc_eq_grow, grow_grow]; rfl⟩
theorem cmpI_lt (x y : WindowD) : ltOf (fun x y : WindowD => cmpI x.fr y.fr) x y = decide (x.fr < y.fr) := by
  unfold ltOf cmpI
  by_cases h1 : x.fr < y.fr
  · simp [h1]
  · by_cases h2 : y.fr < x.fr <;> simp [h1, h2]
theorem cmpI_swo : SWO (ltOf fun x y : WindowD => cmpI x.fr y.fr) where
  irrefl x := by rw [cmpI_lt]; simp
  trans x y z h1 h2 := by rw [cmpI_lt] at *; simp at *; omega
  ntrans x y z h1 h2 := by rw [cmpI_lt] at *; simp at *; omega

theorem flat_at2 : ∀ (l : List WindowD) (j : Nat), j < l.length * 2 → (l.flatMap WindowD.cells)[j]? = some ((WindowD.cells (l.toArray[j / 2]!))[j % 2]!) := by
  intro l
  induction l with
  | nil => intro j hj; simp at hj
  | cons x l ih =>
    intro j hj
    rw [List.flatMap_cons]
    match j, hj with
    | 0, _ => simp
    | 1, _ => simp
    | j + 2, hj =>
      rw [List.getElem?_append_right (by simp)]
      have := ih j (by simp at hj; omega)
      simp only [List.length_cons, List.length_nil, Nat.add_sub_cancel]
      rw [this, show (j + 2) / 2 = j / 2 + 1 by omega, show (j + 2) % 2 = j % 2 by omega]
      have hj2 : j / 2 < l.length := by simp at hj; omega
      simp [hj2]
theorem holds_own {w : World} {base g cap : Nat} {l : List WindowD} (h : OwnWindow w base (.slice (some ⟨g, 0, none⟩) l.length cap) l) : HoldsK WindowD.cells 2 w g 0 l.toArray := by
  intro j hj
  rw [size_flatK] at hj
  have hj' : j < l.length * 2 := by simpa using hj
  rw [Nat.zero_add, get_flatK _ _ _ _ hj]
  exact ⟨(World.ownsRow.cellAt h j (by omega)).trans (flat_at2 l j hj'), World.ownsRow.frozenAt h _⟩
theorem sortWorld_below {w : World} {g n base : Nat} {d : Array WindowD} {os : Array Obj} (hb : base ≤ g) (hw : base ≤ w.heap.size) : Below base w (sortWorldK WindowD.cells 2 w g 0 n d os) := by
  refine ⟨rfl, rfl, rfl, ?_, fun k hk => ?_⟩
  · simp [sortWorldK, grow, putRowK, putRow, mapBlock, Sort.ahead]
  · simp only [sortWorldK, grow, putRowK, putRow, mapBlock, Sort.ahead]
    rw [Array.getElem?_append_left (by simp; omega), Array.getElem?_modify, if_neg (by omega)]

/-- What a sort by first minutes leaves. -/
def Sorted (l l' : List WindowD) : Prop := l'.Perm l ∧ l'.Pairwise (fun x y => x.fr ≤ y.fr)
theorem sorted_of {d d' : Array WindowD} (hp : PermIn 0 d.size d d') (hs : SortedIn (ltOf fun x y : WindowD => cmpI x.fr y.fr) 0 d.size d') : Sorted d.toList d'.toList := by
  obtain ⟨h1, _, h3⟩ := hp
  refine ⟨?_, ?_⟩
  · rw [Array.extract_eq_self_of_le (by omega), Array.extract_eq_self_of_le (by omega)] at h3
    exact h3
  · rw [List.pairwise_iff_getElem]
    intro i j hi hj hij
    have := hs i j (Nat.zero_le _) hij (by simp at hj; omega)
    rw [cmpI_lt] at this
    have h4 := of_decide_eq_false this
    simp at hi hj
    rw [getElem!_pos d' j hj, getElem!_pos d' i hi] at h4
    simp
    omega

set_option maxHeartbeats 2000000 in
theorem sortFunc_any (v : Value) (l : List WindowD) (base : Nat) (w : World) (h : OwnWindow w base v l) (hbase : base ≤ w.heap.size) (hl : l.length ≤ 1000000000) :
    Calls Try.prog 45 #[v, .func (.func 29) #[] #[]] w fun e w' => e = .returned (.tuple #[]) ∧ ∃ l', Sorted l l' ∧ SlWindow w' v l' ∧ Below base w w' := by
  rcases h.2 with ⟨rfl, h0⟩ | ⟨g, cap, cur, rfl, hb, hgb, hkc, _⟩
  · obtain rfl : l = [] := List.eq_nil_of_length_eq_zero h0
    have hcon := AnyF.slices_SortFunc_none { Try.sortW with } none 0 (.func (.func 29) #[] #[]) w
    change Calls Try.prog 45 _ _ _ at hcon
    refine hcon.mono ?_
    rintro e w' ⟨rfl, rfl⟩
    exact ⟨rfl, [], ⟨List.Perm.refl _, List.Pairwise.nil⟩, ⟨by simp, .inl ⟨rfl, none, 0, rfl⟩⟩, Below.refl _ _⟩
  · have hH := holds_own h
    have hblk : g < w.heap.size := (Array.getElem?_eq_some_iff.1 hgb).1
    have hcon := AnyQ.slices_SortFunc Try.sortW 2 Try.isAgg36 Try.sizeOf36 WindowD.cells windowLen window_one (fun x y => cmpI x.fr y.fr) cmpI_swo 29 #[] g 0 cap l.toArray w (enters_of Try.func29 (by kernel_rfl) rfl) (fun _ _ _ _ x y => compareFroms_any x y _) hH hblk (by simp; omega)
    change Calls Try.prog 45 _ _ _ at hcon
    refine hcon.mono ?_
    rintro e w' ⟨rfl, d', n, os, hp, hs, rfl⟩
    have hsz : d'.size = l.length := by rw [hp.1]; simp
    have hH' := holdsK_sortWorldK_c WindowD.cells 2 w g 0 l.toArray d' n os hH hblk (by rw [hsz]; simp)
    refine ⟨rfl, d'.toList, sorted_of hp hs, ⟨by simp [hsz]; omega, ?_⟩, sortWorld_below hb hbase⟩
    rcases Nat.eq_zero_or_pos l.length with hz | hz
    · left
      exact ⟨List.eq_nil_of_length_eq_zero (by simp [hsz, hz]), _, _, by rw [hz]⟩
    · right
      refine ⟨g, 0, cap, by simp [hsz], by simp [hsz]; omega, by simp [hsz]; exact hkc, ?_⟩
      intro i x hx j u hu
      have hi : i < d'.size := by
        have := (List.getElem?_eq_some_iff.1 hx).1
        simpa using this
      have hj : j < 2 := (List.getElem?_eq_some_iff.1 hu).1
      have hc := (HoldsK.cell hH' (i := i) (c := j) hi hj).1
      rw [hc]
      have e1 : d'[i]! = x := by
        rw [getElem!_pos d' i hi]
        obtain ⟨h5, h6⟩ := List.getElem?_eq_some_iff.1 hx
        rw [← h6]; simp
      obtain ⟨h7, h8⟩ := List.getElem?_eq_some_iff.1 hu
      rw [e1, getElem!_pos (WindowD.cells x) j hj, h8]
end Go.Proofs.Ytmjdlkninibocaa
