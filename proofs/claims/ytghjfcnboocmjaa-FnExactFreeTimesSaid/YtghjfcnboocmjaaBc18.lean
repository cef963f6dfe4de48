
/- What ExactFreeTimes and BerthsLaw rests on, part 18: contracts and mathematics. -/
import Derived.Test.YtghjfcnboocmjaaSortShelf
import Derived.Test.YtghjfcnboocmjaaBc16
import Derived.Test.YtghjfcnboocmjaaBc17
import Derived.Sort.LotA
import Derived.Test.YtghjfcnboocmjaaBc10
import Derived.Test.YtghjfcnboocmjaaBc12
import Derived.Test.YtghjfcnboocmjaaBc9
import Derived.Test.YtghjfcnboocmjaaBc13
namespace Go.Proofs.Ytghjfcnboocmjaa
open Go.RowKit Go.Shelf Go.Sort
set_option maxRecDepth 100000
instance : Inhabited WindowD := ⟨⟨0, 0⟩⟩
def cmpI (a b : Int) : Int := if a < b then -1 else if b < a then 1 else 0
theorem isNaN_any (a : Int) (w : World) : Calls Try.prog 113 #[.int .i64 a] w fun e w' => e = .returned (.bool false) ∧ w' = w := by
  go_enter Try.func113, Try.ntmps113
  go_wp2
  go_ret
  exact ⟨rfl, rfl⟩
set_option maxHeartbeats 2000000 in
theorem compare_any (a b : Int) (w : World) : Calls Try.prog 110 #[.int .i64 a, .int .i64 b] w fun e w' => e = .returned (.int .i64 (cmpI a b)) ∧ w' = w := by
  by_cases h1 : a < b
  · have E := Lib.hid (show cmpI a b = -1 by unfold cmpI; rw [if_pos h1])
    go_enter Try.func110, Try.ntmps110
    go_wp2_with fail
    refine (isNaN_any _ _).mono ?_
    rintro e w1 ⟨rfl, rfl⟩
    go_wp2_with fail
    refine (isNaN_any _ _).mono ?_
    rintro e w2 ⟨rfl, rfl⟩
    go_wp2
    go_ret
    exact ⟨ret_int E.out.symm, rfl⟩
  · by_cases h2 : b < a
    · have E := Lib.hid (show cmpI a b = 1 by unfold cmpI; rw [if_neg h1, if_pos h2])
      go_enter Try.func110, Try.ntmps110
      go_wp2_with fail
      refine (isNaN_any _ _).mono ?_
      rintro e w1 ⟨rfl, rfl⟩
      go_wp2_with fail
      refine (isNaN_any _ _).mono ?_
      rintro e w2 ⟨rfl, rfl⟩
      go_wp2
      go_ret
      exact ⟨ret_int E.out.symm, rfl⟩
    · have E := Lib.hid (show cmpI a b = 0 by unfold cmpI; rw [if_neg h1, if_neg h2])
      go_enter Try.func110, Try.ntmps110
      go_wp2_with fail
      refine (isNaN_any _ _).mono ?_
      rintro e w1 ⟨rfl, rfl⟩
      go_wp2_with fail
      refine (isNaN_any _ _).mono ?_
      rintro e w2 ⟨rfl, rfl⟩
      go_wp2
      go_ret
      exact ⟨ret_int E.out.symm, rfl⟩
set_option maxHeartbeats 2000000 in
theorem compareFroms_any (x y : WindowD) (W : World) : Calls Try.prog 94 #[.agg #[.int .i64 x.fr, .int .i64 x.tt], .agg #[.int .i64 y.fr, .int .i64 y.tt]] W fun e w' => e = .returned (.int .i64 (cmpI x.fr y.fr)) ∧ ∃ q os', w' = grow (W.drewN q) os' := by
  go_enter Try.func94, Try.ntmps94
  go_wp2_with fail
  refine (compare_any _ _ _).mono ?_
  rintro e w1 ⟨rfl, rfl⟩
  go_wp2
  go_ret
  exact ⟨rfl, 0, _, by rw [alloc_eq_grow, alloc_eq_grow, grow_grow]; rfl⟩
theorem cmpI_lt (x y : WindowD) : ltOf (fun x y : WindowD => cmpI x.fr y.fr) x y = decide (x.fr < y.fr) := by
  unfold ltOf cmpI
  by_cases h1 : x.fr < y.fr
  · simp [h1]
  · by_cases h2 : y.fr < x.fr <;> simp [h1, h2]
theorem cmpI_swo : SWO (ltOf fun x y : WindowD => cmpI x.fr y.fr) where
  irrefl x := by rw [cmpI_lt]; simp
  trans x y z h1 h2 := by rw [cmpI_lt] at *; simp at *; omega
  ntrans x y z h1 h2 := by rw [cmpI_lt] at *; simp at *; omega
theorem flat_at2 : ∀ (l : List WindowD) (j : Nat), j < l.length * 2 → (l.flatMap WindowD.cells)[j]? = some ((WindowD.cells (l.toArray[j / 2]!))[j % 2]!) := by
  intro l
  induction l with
  | nil => intro j hj; simp at hj
  | cons x l ih =>
    intro j hj
    rw [List.flatMap_cons]
    match j, hj with
    | 0, _ => simp
    | 1, _ => simp
    | j + 2, hj =>
      rw [List.getElem?_append_right (by simp)]
      have := ih j (by simp at hj; omega)
      simp only [List.length_cons, List.length_nil, Nat.add_sub_cancel]
      rw [this, show (j + 2) / 2 = j / 2 + 1 by omega, show (j + 2) % 2 = j % 2 by omega]
      have hj2 : j / 2 < l.length := by simp at hj; omega
      simp [hj2]
theorem holds_own {w : World} {base g cap : Nat} {l : List WindowD} (h : OwnWindow w base (.slice (some ⟨g, 0, none⟩) l.length cap) l) : HoldsK WindowD.cells 2 w g 0 l.toArray := by
  intro j hj
  rw [size_flatK] at hj
  have hj' : j < l.length * 2 := by simpa using hj
  rw [Nat.zero_add, get_flatK _ _ _ _ hj]
  exact ⟨(World.ownsRow.cellAt h j (by omega)).trans (flat_at2 l j hj'), World.ownsRow.frozenAt h _⟩
theorem sortWorld_below {w : World} {g n base : Nat} {d : Array WindowD} {os : Array Obj} (hb : base ≤ g) (hw : base ≤ w.heap.size) : Below base w (sortWorldK WindowD.cells 2 w g 0 n d os) := by
  refine ⟨rfl, rfl, rfl, ?_, fun k hk => ?_⟩
  · simp [sortWorldK, grow, putRowK, putRow, mapBlock, Sort.ahead]
  · simp only [sortWorldK, grow, putRowK, putRow, mapBlock, Sort.ahead]
    rw [Array.getElem?_append_left (by simp; omega), Array.getElem?_modify, if_neg (by omega)]
/-- What a sort by first minutes leaves. -/
def Sorted (l l' : List WindowD) : Prop := l'.Perm l ∧ l'.Pairwise (fun x y => x.fr ≤ y.fr)
theorem sorted_of {d d' : Array WindowD} (hp : PermIn 0 d.size d d') (hs : SortedIn (ltOf fun x y : WindowD => cmpI x.fr y.fr) 0 d.size d') : Sorted d.toList d'.toList := by
  obtain ⟨h1, _, h3⟩ := hp
  refine ⟨?_, ?_⟩
  · rw [Array.extract_eq_self_of_le (by omega), Array.extract_eq_self_of_le (by omega)] at h3
    exact h3
  · rw [List.pairwise_iff_getElem]
    intro i j hi hj hij
    have := hs i j (Nat.zero_le _) hij (by simp at hj; omega)
    rw [cmpI_lt] at this
    have h4 := of_decide_eq_false this
    simp at hi hj
    rw [getElem!_pos d' j hj, getElem!_pos d' i hi] at h4
    simp
    omega
set_option maxHeartbeats 2000000 in
theorem sortFunc_any (v : Value) (l : List WindowD) (base : Nat) (w : World) (h : OwnWindow w base v l) (hbase : base ≤ w.heap.size) (hl : l.length ≤ 1000000000) :
    Calls Try.prog 108 #[v, .func (.func 94) #[] #[]] w fun e w' => e = .returned (.tuple #[]) ∧ ∃ l', Sorted l l' ∧ SlWindow w' v l' ∧ Below base w w' := by
  rcases h.2 with ⟨rfl, h0⟩ | ⟨g, cap, cur, rfl, hb, hgb, hkc, _⟩
  · obtain rfl : l = [] := List.eq_nil_of_length_eq_zero h0
    have hcon := sortNone none 0 (.func (.func 94) #[] #[]) w
    refine hcon.mono ?_
    rintro e w' ⟨rfl, rfl⟩
    exact ⟨rfl, [], ⟨List.Perm.refl _, List.Pairwise.nil⟩, ⟨by simp, .inl ⟨rfl, none, 0, rfl⟩⟩, Below.refl _ _⟩
  · have hH := holds_own h
    have hblk : g < w.heap.size := (Array.getElem?_eq_some_iff.1 hgb).1
    have hcon := AnyQ.slices_SortFunc Try.sortW 2 Try.isAgg86 Try.sizeOf86 WindowD.cells windowLen window_one (fun x y => cmpI x.fr y.fr) cmpI_swo 94 #[] g 0 cap l.toArray w (enters_of Try.func94 (by kernel_rfl) rfl) (fun _ _ _ _ x y => compareFroms_any x y _) hH hblk (by simp; omega)
    change Calls Try.prog 108 _ _ _ at hcon
    refine hcon.mono ?_
    rintro e w' ⟨rfl, d', n, os, hp, hs, rfl⟩
    have hsz : d'.size = l.length := by rw [hp.1]; simp
    have hH' := holdsK_sortWorldK_c WindowD.cells 2 w g 0 l.toArray d' n os hH hblk (by rw [hsz]; simp)
    refine ⟨rfl, d'.toList, sorted_of hp hs, ⟨by simp [hsz]; omega, ?_⟩, sortWorld_below hb hbase⟩
    rcases Nat.eq_zero_or_pos l.length with hz | hz
    · left
      exact ⟨List.eq_nil_of_length_eq_zero (by simp [hsz, hz]), _, _, by rw [hz]⟩
    · right
      refine ⟨g, 0, cap, by simp [hsz], by simp [hsz]; omega, by simp [hsz]; exact hkc, ?_⟩
      intro i x hx j u hu
      have hi : i < d'.size := by
        have := (List.getElem?_eq_some_iff.1 hx).1
        simpa using this
      have hj : j < 2 := (List.getElem?_eq_some_iff.1 hu).1
      have hc := (HoldsK.cell hH' (i := i) (c := j) hi hj).1
      rw [hc]
      have e1 : d'[i]! = x := by
        rw [getElem!_pos d' i hi]
        obtain ⟨h5, h6⟩ := List.getElem?_eq_some_iff.1 hx
        rw [← h6]; simp
      obtain ⟨h7, h8⟩ := List.getElem?_eq_some_iff.1 hu
      rw [e1, getElem!_pos (WindowD.cells x) j hj, h8]
end Go.Proofs.Ytghjfcnboocmjaa
namespace Go.Proofs.Ytghjfcnboocmjaa
open Go.RowKit
set_option maxRecDepth 100000
theorem count_or {α : Type} (p q : α → Bool) : ∀ l : List α, (∀ m ∈ l, ¬ (p m = true ∧ q m = true)) → l.countP (fun m => p m || q m) = l.countP p + l.countP q
  | [], _ => rfl
  | x :: l, h => by
    have ih := count_or p q l (fun m hm => h m (List.mem_cons_of_mem _ hm))
    have hx := h x List.mem_cons_self
    rw [List.countP_cons, List.countP_cons, List.countP_cons, ih]
    cases hp : p x <;> cases hq : q x <;> simp_all <;> omega
theorem count_range (a b : Nat) (h : a ≤ b) : ∀ n : Nat, (List.range n).countP (fun m => decide (a ≤ m ∧ m < b)) = min n b - min n a
  | 0 => by simp
  | n + 1 => by
    rw [List.range_succ, List.countP_append, count_range a b h n]
    by_cases e : a ≤ n ∧ n < b
    · simp [e]; omega
    · simp [e]; omega
/-- The minutes of a list of windows, counted one by one. -/
def cntW (l : List WindowD) : Nat := (List.range 2881).countP (fun m : Nat => hasB l (m : Int))
theorem cnt_one {x : WindowD} (h : 0 ≤ x.fr ∧ x.fr ≤ x.tt ∧ x.tt ≤ 2880) : ((List.range 2881).countP (fun m => decide (x.fr ≤ ((m : Nat) : Int) ∧ ((m : Nat) : Int) ≤ x.tt)) : Int) = x.tt - x.fr + 1 := by
  obtain ⟨a, ha⟩ : ∃ a : Nat, x.fr = (a : Int) := ⟨x.fr.toNat, by omega⟩
  obtain ⟨b, hb⟩ : ∃ b : Nat, x.tt + 1 = (b : Int) := ⟨(x.tt + 1).toNat, by omega⟩
  have e : (fun m : Nat => decide (x.fr ≤ (m : Int) ∧ (m : Int) ≤ x.tt)) = fun m => decide (a ≤ m ∧ m < b) := by
    funext m
    rw [decide_eq_decide, ha]
    omega
  rw [e, count_range a b (by omega)]
  omega
theorem hasB_cons (x : WindowD) (l : List WindowD) (m : Int) : hasB (x :: l) m = (decide (x.fr ≤ m ∧ m ≤ x.tt) || hasB l m) := by
  rw [Bool.eq_iff_iff, has_iff, has_cons, Bool.or_eq_true, has_iff, decide_eq_true_eq]
/-- No two of the windows have a minute in common. -/
def Far (x y : WindowD) : Prop := x.tt < y.fr ∨ y.tt < x.fr
theorem cnt_sum : ∀ {l : List WindowD}, (∀ x ∈ l, 0 ≤ x.fr ∧ x.fr ≤ x.tt ∧ x.tt ≤ 2880) → l.Pairwise Far → (cntW l : Int) = sumW l
  | [], _, _ => by
    have : cntW [] = 0 := by unfold cntW; rw [List.countP_eq_zero]; intro m _; simp [hasB]
    rw [this]; rfl
  | x :: l, h1, h2 => by
    obtain ⟨h3, h4⟩ := List.pairwise_cons.1 h2
    have ih := cnt_sum (fun y hy => h1 y (List.mem_cons_of_mem _ hy)) h4
    have hx := h1 x List.mem_cons_self
    have e : cntW (x :: l) = (List.range 2881).countP (fun m => decide (x.fr ≤ ((m : Nat) : Int) ∧ ((m : Nat) : Int) ≤ x.tt)) + cntW l := by
      unfold cntW
      rw [← count_or]
      · exact congrArg (fun f => List.countP f (List.range 2881)) (funext (fun m : Nat => hasB_cons x l (m : Int)))
      · rintro m - ⟨p, q⟩
        have p := of_decide_eq_true p
        obtain ⟨y, hy, q1, q2⟩ := (has_iff l _).1 q
        rcases h3 y hy with h | h <;> omega
    have hs : sumW (x :: l) = (x.tt - x.fr + 1) + sumW l := by
      have : ∀ (l : List WindowD) (s : Int), l.foldl (fun s x => s + (x.tt - x.fr + 1)) s = s + sumW l := by
        intro l
        unfold sumW
        induction l with
        | nil => intro s; simp
        | cons y l ih => intro s; rw [List.foldl_cons, List.foldl_cons, ih, ih (0 + (y.tt - y.fr + 1))]; omega
      unfold sumW
      rw [List.foldl_cons, this]
      unfold sumW
      omega
    rw [e, hs]
    push_cast
    have := cnt_one hx
    omega
theorem WOk.far {l : List WindowD} (h : WOk l) : l.Pairwise Far := h.2.imp (fun h => .inl (by omega))
/-- What is free and what is taken, gathered from windows that do not meet. -/
theorem free_sum {l : List WindowD} (h1 : ∀ x ∈ l, 0 ≤ x.fr ∧ x.fr ≤ x.tt ∧ x.tt ≤ 2880) (h2 : l.Pairwise Far) : sumW (gathL l) = sumW l := by
  have hg := gath_ok l
  rw [← cnt_sum hg.1 hg.far, ← cnt_sum h1 h2]
  have : cntW (gathL l) = cntW l := by
    unfold cntW
    refine List.countP_congr (fun m hm => ?_)
    have hm := List.mem_range.1 hm
    rw [has_iff, has_iff]
    exact gath_has l (by omega) (by omega)
  rw [this]
theorem count_free {l : List WindowD} (h1 : ∀ x ∈ l, 0 ≤ x.fr ∧ x.fr ≤ x.tt ∧ x.tt ≤ 2880) (h2 : l.Pairwise Far) : countI (otherL (gathL l)) = 2881 - sumW l := by
  have hg := gath_ok l
  obtain ⟨o1, -, o3⟩ := other_spec hg
  rw [otherL_ok hg.to]
  unfold countI
  rw [o1.to, if_pos rfl]
  have := free_sum h1 h2
  omega
end Go.Proofs.Ytghjfcnboocmjaa
namespace Go.Proofs.Ytghjfcnboocmjaa
open Go.RowKit
set_option maxRecDepth 100000
theorem Sorted.len {l l' : List WindowD} (h : Sorted l l') : l'.length = l.length := h.1.length_eq
theorem Sorted.gath {l l' : List WindowD} (h : Sorted (timeP l) l') : mergeF l' = gathL l := by
  refine merge_eq_marks h.2 (fun x hx => timeP_time l x (h.1.mem_iff.1 hx)) (fun j hj => ?_)
  rw [has_iff, ← timeP_has l (j : Int) (by omega) (by omega)]
  constructor
  · rintro ⟨x, hx, h1, h2⟩; exact ⟨x, h.1.mem_iff.2 hx, h1, h2⟩
  · rintro ⟨x, hx, h1, h2⟩; exact ⟨x, h.1.mem_iff.1 hx, h1, h2⟩
/-- What a sorted collection leaves. -/
def SortQ (xs : List WindowD) (w : World) (e : Ending) (w' : World) : Prop :=
  ∃ A c l', e = .returned (.slice A l'.length c) ∧ Sorted xs l' ∧ SlWindow w' (.slice A l'.length c) l' ∧ Below w.heap.size w w'
set_option maxHeartbeats 2000000 in
theorem sortedFunc_any (g : Nat) (lb : Array Value) (n₀ N : Nat) (xs : List WindowD) (w : World) (hseq : SeqW g lb (Kp2 86 n₀) N xs w) (hn₀ : n₀ ≤ w.heap.size) (eg : ∀ args w, (callFunc g args).run Try.prog w = .ok (.enter g args) w) (hlen : N ≤ 4000000000) (hxs : xs.length ≤ 1000000000) :
    Calls Try.prog 92 #[.func (.func g) #[] lb, .func (.func 94) #[] #[]] w (SortQ xs w) := by
  have HC := Lib.hid (collect_any g lb n₀ N xs w hseq hn₀ eg hlen)
  clear hseq eg
  go_enter Try.func92, Try.ntmps92
  go_wp2_with fail
  refine HC.out.mono ?_
  intro e w1 hnew
  obtain ⟨v, rfl, h1, h2⟩ := hnew
  have CF := Lib.hid (sortFunc_any v xs w.heap.size w1 h1 h2.size hxs)
  have B1 := Lib.hid h2
  obtain ⟨A, c, rfl⟩ := own_form h1
  clear h1 h2
  go_wp2_with fail
  refine CF.out.mono ?_
  rintro e w2 ⟨rfl, l', hs, hsl, hb⟩
  have HS := Lib.hid hs
  have HL := Lib.hid hsl
  have B2 := Lib.hid (B1.out.trans hb)
  clear hs hsl hb
  go_wp2
  go_ret
  refine ⟨A, c, l', by rw [HS.out.len]; rfl, HS.out, ?_, B2.out⟩
  rw [HS.out.len]
  exact HL.out
set_option maxHeartbeats 4000000 in
theorem implGatherWindows (v : Value) (l : List WindowD) (w : World) (h : SlWindow w v l) :
    Calls Try.prog 61 #[v] w (NewWindow (gathL l) w) := by
  have hl := h.1
  have H := Lib.hid h
  obtain ⟨A, c, rfl⟩ := h.at
  clear h
  go_enter Try.func61, Try.ntmps61
  go_wp2_with fail
  refine (inTime_any _ _ _ _).mono ?_
  rintro e w1 ⟨rfl, hw1⟩
  have hal : Below w.heap.size w w1 := by rw [hw1]; exact Joins.below_alloc1 w _
  have bx : Blk w1 w.heap.size #[.slice A l.length c] 35 := by rw [hw1]; exact Blk.new _ _ _
  have B1 := Lib.hid hal
  have HS := Lib.hid (inTime1 A c l w.heap.size w1 (H.out.below hal) bx.lt (bx.cell 0))
  have CC := Lib.hid (sortedFunc_any _ _ _ _ _ _ HS.out (Nat.le_refl _) (enters_of Try.func109 (by kernel_rfl) rfl) (by omega) (by have := timeP_len l; omega))
  clear hw1 hal bx HS
  go_wp2_with fail
  refine CC.out.mono ?_
  rintro e w2 ⟨A2, c2, l', rfl, hs, hsl, hb2⟩
  have EG := Lib.hid hs.gath
  have hl' : l'.length ≤ 1000000000 := hsl.1
  have HL := Lib.hid hsl
  have B2 := Lib.hid (B1.out.trans (hb2.mono B1.out.size))
  clear hs hsl hb2
  go_wp2_with fail
  refine (values_any _ _ _ _).mono ?_
  rintro e w3 ⟨rfl, hw3⟩
  have hal : Below w2.heap.size w2 w3 := by rw [hw3]; exact Joins.below_alloc1 w2 _
  have bx : Blk w3 w2.heap.size #[.slice A2 l'.length c2] 35 := by rw [hw3]; exact Blk.new _ _ _
  have B3 := Lib.hid (B2.out.trans (hal.mono B2.out.size))
  have HV := Lib.hid (values1 A2 c2 l' w2.heap.size w3 (HL.out.below hal) bx.lt (bx.cell 0))
  have CM := Lib.hid (merge_any _ _ _ _ _ _ HV.out (Nat.le_refl _) (enters_of Try.func107 (by kernel_rfl) rfl) (by omega))
  rw [EG.out] at CM
  clear hw3 hal bx HV
  go_wp2_with fail
  refine CM.out.mono ?_
  intro e w4 hnew
  obtain ⟨v4, rfl, h1, h2⟩ := hnew
  have K1 := Lib.hid h1
  have K2 := Lib.hid h2
  obtain ⟨A3, c3, rfl⟩ := own_form h1
  clear h1 h2
  go_wp2
  go_ret
  exact ⟨_, rfl, own_lo K1.out B3.out.size, B3.out.trans (K2.out.mono B3.out.size)⟩
end Go.Proofs.Ytghjfcnboocmjaa
