/- slices.Insert over Surge, one element more: contract. -/
import Derived.Test.YtbcbbolakjjglaaSurgeClone
namespace Go.Proofs.Ytbcbbolakjjglaa
open Go.RowKit
set_option maxRecDepth 100000

/-- A row that the call gives: the element x stands at place i; but for the old row's block and what is new nothing has changed. -/
def InsPost (base : Nat) (l : List SurgeD) (i : Nat) (x : SurgeD) (row : Option Nat) (w : World) (e : Ending) (w' : World) : Prop :=
  ∃ v', e = .returned v' ∧ OwnSurge w' base v' (insL l i x) ∧ w.grownBy w' row

theorem surge_one (x : SurgeD) : ∀ v ∈ x.cells, v.oneCell' = true := fun v hv => by simp at hv; rcases hv with rfl | rfl | rfl <;> rfl

set_option maxHeartbeats 2000000 in
theorem insert_end (base g cap : Nat) (l : List SurgeD) (x : SurgeD) (vb : Nat) (w : World) (ho : OwnSurge w base (.slice (some ⟨g, 0, none⟩) l.length cap) l) (hb : base ≤ w.heap.size) (hl0 : 0 < l.length) (hl : l.length ≤ 100) (hx : Blk w vb x.cells.toArray 44) :
    Calls Try.prog 82 #[.slice (some ⟨g, 0, none⟩) l.length cap, .int .i64 (l.length : Int), .slice (some ⟨vb, 0, none⟩) 1 1] w (InsPost base l l.length x (some g) w) := by
  obtain ⟨i0, hi, hz0, hz1, hz2⟩ := info_parts (P := Try.prog) (e := 44) (z := .agg #[.int .i64 0, .int .i64 0, .int .i64 0]) (size := 3) (bytes := 24) (by kernel_rfl)
  have HI := Lib.hid hi
  have HO := Lib.hid ho
  have HX := Lib.hid (show ∀ j u, x.cells[j]? = some u → w.cell? ((⟨vb, 0, none⟩ : Addr).add j) = some u from fun j u hj => by rw [Addr.add_lit, Nat.zero_add, hx.cell]; simpa using hj)
  clear hi ho hx
  go_enter Try.func82, Try.ntmps82
  go_wp2_with (at_builtin; refine wpList_append_lies _ rfl _ _ _ rfl base 44 i0 _ 3 24 Try.underlying26 HI.out hz0 hz1 hz2 rfl (by omega) (.slice (some ⟨g, 0, none⟩) l.length cap) l.length (l.flatMap SurgeD.cells) rfl HO.out ⟨vb, 0, none⟩ 1 1 x.cells rfl rfl HX.out (surge_one x) (by omega) (by unfold maxLen; omega) (by omega) hb _ rfl ?_; intro g4 cap4 w4 hown4 hgrow4 hor4 hlt4)
  all_goals
    go_ret
    refine ⟨_, rfl, ?_, hgrow4⟩
    have e : insL l l.length x = l ++ [x] := by unfold insL; simp
    rw [e]
    simpa [OwnSurge, OwnOf] using hown4

theorem Blk.shape {w : World} {b : Nat} {cs : Array Value} {t : TypeId} (h : Blk w b cs t) : w.shape? b = some (t, cs.size) := by
  unfold Blk at h
  simp [World.shape?, h]

/-- The cells of a row from the place i on, found in its block. -/
theorem drop_cells {w : World} {g : Nat} {l : List SurgeD} {R : List Value} {t : TypeId} (hg : w.heap[g]? = some (.cells (l.flatMap SurgeD.cells ++ R).toArray t (0, 0))) (i : Nat) (hi : i ≤ l.length) :
    ∀ j u, ((l.drop i).flatMap SurgeD.cells)[j]? = some u → w.cell? ((⟨g, i * 3, none⟩ : Addr).add j) = some u := by
  intro j u hj
  rw [Addr.add_lit, Joins.cell_of_block hg]
  have e : l.flatMap SurgeD.cells = (l.take i).flatMap SurgeD.cells ++ (l.drop i).flatMap SurgeD.cells := by rw [← List.flatMap_append, List.take_append_drop]
  have hlen : ((l.take i).flatMap SurgeD.cells).length = i * 3 := by rw [flat_len surgeLen, List.length_take, Nat.min_eq_left hi]
  have hjl := (List.getElem?_eq_some_iff.1 hj).1
  simp only [List.getElem?_toArray]
  rw [e, List.append_assoc, ← hlen, List.getElem?_append_right (by omega), Nat.add_sub_cancel_left, List.getElem?_append_left hjl]
  exact hj

set_option maxHeartbeats 4000000 in
theorem insert_shift (base g cap : Nat) (l : List SurgeD) (x : SurgeD) (i vb : Nat) (R : List Value) (w : World) (hbg : base ≤ g) (hg : w.heap[g]? = some (.cells (l.flatMap SurgeD.cells ++ R).toArray 44 (0, 0))) (hR : (l.flatMap SurgeD.cells ++ R).length = cap * 3) (hl : l.length ≤ 100) (hcap : l.length + 1 ≤ cap) (hcm : cap ≤ maxLen) (hi0 : 0 < i) (hi : i < l.length) (hx : Blk w vb x.cells.toArray 44) (hvb : vb ≠ g) :
    Calls Try.prog 82 #[.slice (some ⟨g, 0, none⟩) l.length cap, .int .i64 (i : Int), .slice (some ⟨vb, 0, none⟩) 1 1] w (InsPost base l i x (some g) w) := by
  obtain ⟨i0, hin, hz0, hz1, hz2⟩ := info_parts (P := Try.prog) (e := 44) (z := .agg #[.int .i64 0, .int .i64 0, .int .i64 0]) (size := 3) (bytes := 24) (by kernel_rfl)
  have hsz : (Try.prog.info? 44).map (·.size) = some 3 := by rw [hin]; simp [hz1]
  have hzz : ∀ w, (Go.sizeOf 44).run Try.prog w = .ok 3 w := fun w => by simp [Go.sizeOf, typeInfo, hin, hz1]
  have hfl := flat_len surgeLen l
  have hRl : l.length * 3 + R.length = cap * 3 := by rw [List.length_append, hfl] at hR; exact hR
  have hP2 : ((l.drop i).flatMap SurgeD.cells).length = (l.length - i) * 3 := by rw [flat_len surgeLen, List.length_drop]
  have hP1 : ((l.take i).flatMap SurgeD.cells).length = i * 3 := by rw [flat_len surgeLen, List.length_take, Nat.min_eq_left (by omega)]
  have hP : l.flatMap SurgeD.cells = (l.take i).flatMap SurgeD.cells ++ (l.drop i).flatMap SurgeD.cells := by rw [← List.flatMap_append, List.take_append_drop]
  obtain ⟨P1, eP1⟩ : ∃ P1, (l.take i).flatMap SurgeD.cells = P1 := ⟨_, rfl⟩
  obtain ⟨P2, eP2⟩ : ∃ P2, (l.drop i).flatMap SurgeD.cells = P2 := ⟨_, rfl⟩
  have hdc := drop_cells hg i (by omega)
  have h1P : ∀ v ∈ P2, v.oneCell' = true := by rw [← eP2]; exact oneCell_flat surge_one _
  have hgs : i < l.length := hi
  rw [eP2] at hdc hP2 hP
  rw [eP1] at hP1 hP
  -- the first copy
  have hov : ∀ lb cb, (callFunc 94 #[.slice (some ⟨vb, 0, none⟩) 1 1, .slice (some ⟨g, (i + 1) * 3, none⟩) lb cb]).run Try.prog w = .ok (.value (.bool false)) w := fun lb cb => by
    rw [run_callFunc_extern Try.func94 (by kernel_rfl) (by kernel_rfl) (by kernel_rfl) (e := Extern.SlicesOverlaps.overlaps #[26, 26] #[4]) (by kernel_rfl),
      Lib.run_overlaps_apart w 26 4 44 Try.underlying26 3 hzz ⟨vb, 0, none⟩ ⟨g, (i + 1) * 3, none⟩ 1 1 lb cb hvb _ _ _ _ hx.shape (Blk.shape hg) (by rw [List.size_toArray, hR]; omega) (hx.free 0) (hx.free _)]
    rfl
  obtain ⟨C1, eC1⟩ : ∃ C1, splice (l.flatMap SurgeD.cells ++ R) ((i + 1) * 3) P2 = C1 := ⟨_, rfl⟩
  have hcp1 : ∀ ty dc sc, (Builtin.copy_ #[26, 26] ty #[.slice (some ⟨g, (i + 1) * 3, none⟩) (l.length + 1 - (i + 1)) dc, .slice (some ⟨g, i * 3, none⟩) (l.length + 1 - i) sc]).run Try.prog w.drew = .ok (goInt (Nat.min (l.length + 1 - i) (l.length + 1 - (i + 1)))) (w.drew.setRow g C1.toArray) := fun ty dc sc => by
    have h := run_copy_rowK (P := Try.prog) w.drew 26 26 ty 44 g ((i + 1) * 3) (l.length + 1 - (i + 1)) dc ⟨g, i * 3, none⟩ (l.length + 1 - i) sc _ _ P2 3 Try.underlying26 hsz hg (by rw [show Nat.min (l.length + 1 - i) (l.length + 1 - (i + 1)) = l.length + 1 - (i + 1) from Nat.min_eq_right (by omega), hP2]; omega) hdc (by simp only [List.size_toArray]; rw [hR, hP2]; omega) h1P
    simp only [eC1] at h
    exact h
  have hg2 : (w.drew.setRow g C1.toArray).heap[g]? = some (.cells C1.toArray 44 (0, 0)) := setRow_heap w.drew g _ _ _ _ hg
  have hC1 : C1 = P1 ++ ((P2 ++ R.take 3).take 3 ++ (P2 ++ R.drop 3)) := by
    rw [← eC1, hP]
    have e1 : (P1 ++ P2) ++ R = (P1 ++ (P2 ++ R.take 3).take 3) ++ ((P2 ++ R.take 3).drop 3 ++ R.drop 3) := by
      rw [List.append_assoc, List.append_assoc, ← List.append_assoc (List.take 3 _), List.take_append_drop, List.append_assoc, List.take_append_drop]
    rw [e1, splice_mid _ _ _ _ _ (by simp; omega) (by simp; omega), List.append_assoc]
  have hcp2 : ∀ (W : World), (∀ k : Nat, W.heap[k]? = (w.drew.setRow g C1.toArray).heap[k]?) → ∀ ty dc, (Builtin.copy_ #[26, 26] ty #[.slice (some ⟨g, i * 3, none⟩) (l.length + 1 - i) dc, .slice (some ⟨vb, 0, none⟩) 1 1]).run Try.prog W = .ok (goInt (Nat.min 1 (l.length + 1 - i))) (W.setRow g (P1 ++ (x.cells ++ (P2 ++ R.drop 3))).toArray) := fun W hW ty dc => by
    have hxW : Blk W vb x.cells.toArray 44 := (hW vb).trans ((setRow_other w.drew g vb _ hvb).trans hx)
    have h := run_copy_rowK (P := Try.prog) W 26 26 ty 44 g (i * 3) (l.length + 1 - i) dc ⟨vb, 0, none⟩ 1 1 _ _ x.cells 3 Try.underlying26 hsz ((hW g).trans hg2) (by rw [show Nat.min 1 (l.length + 1 - i) = 1 from Nat.min_eq_left (by omega)]; rfl) (fun j u hj => by rw [Addr.add_lit, Nat.zero_add, hxW.cell]; simpa using hj) (by simp [hC1]; omega) (surge_one x)
    rw [show splice C1.toArray.toList (i * 3) x.cells = P1 ++ (x.cells ++ (P2 ++ R.drop 3)) from by simp only [hC1]; exact splice_mid _ _ _ _ _ (by omega) (by simp; omega)] at h
    exact h
  have HC1 := Lib.hid hcp1
  have HC2 := Lib.hid hcp2
  have HOV := Lib.hid hov
  have HG2 := Lib.hid hg2
  have HP := Lib.hid hP
  have HG := Lib.hid hg
  have HR := Lib.hid hRl
  have HP1 := Lib.hid hP1
  have HP2 := Lib.hid hP2
  have E1 := Lib.hid eP1
  have E2 := Lib.hid eP2
  have E0 := Lib.hid (insL_flat SurgeD.cells l i x)
  have hw1 : IntKind.i64.wrap ((i : Int) + 1) = (i : Int) + 1 := by rw [IntKind.wrap_i64]; omega
  have hb1 : (0 : Int) ≤ (i : Int) + 1 := by omega
  have htn : ((i : Int) + 1).toNat = i + 1 := by omega
  have hb2 : ¬ (cap = i + 1) := by omega
  have hb3 : (i : Int) ≤ (l.length : Int) + 1 := by omega
  have hb4 : ¬ (cap = i) := by omega
  have hle1 : i ≤ l.length := by omega
  have hle2 : (i : Int) ≤ (l.length : Int) := by omega
  have mixed : Try.prog.follows .mixedOrders = true := by kernel_rfl
  have hb5 : ¬ (cap = l.length + 1 ∧ False) := by simp
  unfold maxLen at hcm
  clear hcp1 hcp2 hov hP hg2 hg hRl hP1 hP2 eP1 eP2 hR hfl hdc h1P eC1 hC1 hz0 hz1 hz2 hin hsz hzz hx hb5
  go_enter Try.func82, Try.ntmps82
  go_wp2_with (simp only [HOV.out])
  go_region_law_o (refine step_copy_runI rfl _ _ 26 26 rfl (.slice (some ⟨g, (i + 1) * 3, none⟩) (l.length + 1 - (i + 1)) (cap - (i + 1))) (.slice (some ⟨g, i * 3, none⟩) (l.length + 1 - i) (cap - i)) (by simp [Act.eval, Act.put]) (by simp [Act.eval, Act.put]) (HC1.out _ _ _) ?_)
  have hr2 := HC2.out (w.drew.setRow g C1.toArray) (fun _ => rfl) 3 (cap - i)
  go_wp2
  go_ret
  have hlen := insL_length l i x (by omega)
  refine ⟨_, rfl, ?_, ?_⟩
  · have e : Value.slice (some ⟨g, 0, none⟩) (l.length + 1) cap = .slice (some ⟨g, 0, none⟩) (insL l i x).length cap := by rw [hlen]
    show OwnOf 3 SurgeD.cells 44 _ base (Value.slice (some ⟨g, 0, none⟩) (l.length + 1) cap) (insL l i x)
    rw [e]
    refine own_of_block (R := R.drop 3) surgeLen hbg ?_ (by omega) (by unfold maxLen; omega) ?_
    · rw [E0.out, E1.out, E2.out, List.append_assoc, List.append_assoc]
      exact setRow_heap _ g _ _ _ _ HG2.out
    · rw [E0.out, E1.out, E2.out]
      simp only [List.length_append, HP1.out, HP2.out, List.length_drop, surgeLen]
      have := HR.out
      omega
  · exact ((grown_of_below ((Below.refl _ w).drew) (some g)).trans (grown_setRow w.drew g C1.toArray)).trans (grown_setRow _ g _)

theorem zero_len (z : Array Value) (n : Nat) : (Builtin.zeroCells z n).size = n * z.size := by simp [Builtin.zeroCells]

set_option maxHeartbeats 4000000 in
theorem insert_grow (base g cap : Nat) (l : List SurgeD) (x : SurgeD) (i vb : Nat) (R : List Value) (w : World) (hbw : base ≤ w.heap.size) (hg : w.heap[g]? = some (.cells (l.flatMap SurgeD.cells ++ R).toArray 44 (0, 0))) (hl : l.length ≤ 100) (hcap : l.length = cap) (hi0 : 0 < i) (hi : i < l.length) (hx : Blk w vb x.cells.toArray 44) :
    Calls Try.prog 82 #[.slice (some ⟨g, 0, none⟩) l.length cap, .int .i64 (i : Int), .slice (some ⟨vb, 0, none⟩) 1 1] w (InsPost base l i x (some g) w) := by
  subst hcap
  obtain ⟨i0, hin, hz0, hz1, hz2⟩ := info_parts (P := Try.prog) (e := 44) (z := .agg #[.int .i64 0, .int .i64 0, .int .i64 0]) (size := 3) (bytes := 24) (by kernel_rfl)
  have hsz : (Try.prog.info? 44).map (·.size) = some 3 := by rw [hin]; simp [hz1]
  have hP2 : ((l.drop i).flatMap SurgeD.cells).length = (l.length - i) * 3 := by rw [flat_len surgeLen, List.length_drop]
  have hP1 : ((l.take i).flatMap SurgeD.cells).length = i * 3 := by rw [flat_len surgeLen, List.length_take, Nat.min_eq_left (by omega)]
  have hP : l.flatMap SurgeD.cells = (l.take i).flatMap SurgeD.cells ++ (l.drop i).flatMap SurgeD.cells := by rw [← List.flatMap_append, List.take_append_drop]
  obtain ⟨P1, eP1⟩ : ∃ P1, (l.take i).flatMap SurgeD.cells = P1 := ⟨_, rfl⟩
  obtain ⟨P2, eP2⟩ : ∃ P2, (l.drop i).flatMap SurgeD.cells = P2 := ⟨_, rfl⟩
  have hdc := drop_cells hg i (by omega)
  have h1P : ∀ v ∈ P2, v.oneCell' = true := by rw [← eP2]; exact oneCell_flat surge_one _
  rw [eP2] at hdc hP2 hP
  rw [eP1] at hP1 hP
  have hgw : g < w.heap.size := Blk.lt hg
  have hvw : vb < w.heap.size := hx.lt
  have hold : (Builtin.firstCells i0.size i (.slice (some ⟨g, 0, none⟩) i l.length)).run Try.prog w.drew = .ok P1.toArray w.drew := by
    rw [hz1]
    refine run_firstCells_some w.drew 3 i ⟨g, 0, none⟩ i l.length P1 hP1 (fun j v hj => ?_)
    have hjl := (List.getElem?_eq_some_iff.1 hj).1
    rw [Addr.add_lit, Nat.zero_add]
    show w.cell? ⟨g, j, none⟩ = some v
    rw [Joins.cell_of_block hg]
    simp only [List.getElem?_toArray]
    rw [hP, List.append_assoc, List.getElem?_append_left hjl]
    exact hj
  obtain ⟨G, hG⟩ : ∃ G, grownCap w (l.length + 1) l.length 44 = G := ⟨_, rfl⟩
  have hGn : l.length + 1 ≤ G := by rw [← hG]; exact grownCap_ge w _ _ _
  have hGm : G ≤ maxLen := by rw [← hG]; exact grownCap_le_maxLen w _ _ _ (by unfold maxLen; omega)
  obtain ⟨ROW, hROW⟩ : ∃ ROW : Array Value, P1.toArray ++ Builtin.zeroCells (Value.agg #[.int .i64 0, .int .i64 0, .int .i64 0]).cells (l.length + 1 - i) ++ Builtin.zeroCells (Value.agg #[.int .i64 0, .int .i64 0, .int .i64 0]).cells (G - (l.length + 1)) = ROW := ⟨_, rfl⟩
  have hrz : ∀ ty, (Builtin.append_ #[26, 3] ty #[.slice (some ⟨g, 0, none⟩) i l.length, .int .i64 ((l.length : Int) + 1 - (i : Int))]).run Try.prog w = .ok (.slice (some ⟨w.heap.size, 0, none⟩) (l.length + 1) G) (w.drew.alloc (.cells ROW 44)) := fun ty => by
    have h := Lib.run_append_grow_zeros w 26 3 ty 44 i0 _ .i64 .i64 Try.underlying26 Try.underlying3 hin hz0 (some ⟨g, 0, none⟩) i l.length P1 hold (l.length + 1 - i) (by omega) (by omega) (by omega) (by omega) (by rw [hz2]; omega) (by rw [hz2]; exact growslice_fits (by omega) (by omega))
    rw [show i + (l.length + 1 - i) = l.length + 1 by omega, hG, hROW, show ((l.length + 1 - i : Nat) : Int) = (l.length : Int) + 1 - (i : Int) by omega] at h
    exact h
  obtain ⟨Z, hZ, hZl⟩ : ∃ Z : List Value, ROW = (P1 ++ (Z.take 3 ++ Z.drop 3)).toArray ∧ Z.length = (G - i) * 3 := by
    refine ⟨(Builtin.zeroCells (Value.agg #[.int .i64 0, .int .i64 0, .int .i64 0]).cells (l.length + 1 - i)).toList ++ (Builtin.zeroCells (Value.agg #[.int .i64 0, .int .i64 0, .int .i64 0]).cells (G - (l.length + 1))).toList, ?_, ?_⟩
    · rw [← hROW, List.take_append_drop]; apply Array.ext'; simp
    · simp only [List.length_append, Array.length_toList, zero_len]
      show (l.length + 1 - i) * 3 + (G - (l.length + 1)) * 3 = (G - i) * 3
      omega
  subst hZ
  have hW0 : ∀ (W : World), (∀ k : Nat, W.heap[k]? = (w.drew.alloc (.cells (P1 ++ (Z.take 3 ++ Z.drop 3)).toArray 44)).heap[k]?) → W.heap[w.heap.size]? = some (.cells (P1 ++ (Z.take 3 ++ Z.drop 3)).toArray 44 (0, 0)) ∧ ∀ k, k < w.heap.size → W.heap[k]? = w.heap[k]? := fun W hW =>
    ⟨(hW _).trans (heap_alloc_new w.drew _), fun k hk => (hW k).trans (((Below.refl w.heap.size w.drew).alloc (Nat.le_refl _) _).block k hk)⟩
  have hcp1 : ∀ (W : World), (∀ k : Nat, W.heap[k]? = (w.drew.alloc (.cells (P1 ++ (Z.take 3 ++ Z.drop 3)).toArray 44)).heap[k]?) → ∀ ty dc, (Builtin.copy_ #[26, 26] ty #[.slice (some ⟨w.heap.size, i * 3, none⟩) (l.length + 1 - i) dc, .slice (some ⟨vb, 0, none⟩) 1 1]).run Try.prog W = .ok (goInt (Nat.min 1 (l.length + 1 - i))) (W.setRow w.heap.size (P1 ++ (x.cells ++ Z.drop 3)).toArray) := fun W hW ty dc => by
    obtain ⟨k1, k2⟩ := hW0 W hW
    have hxW : Blk W vb x.cells.toArray 44 := (k2 vb hvw).trans hx
    have h := run_copy_rowK (P := Try.prog) W 26 26 ty 44 w.heap.size (i * 3) (l.length + 1 - i) dc ⟨vb, 0, none⟩ 1 1 _ _ x.cells 3 Try.underlying26 hsz k1 (by rw [show Nat.min 1 (l.length + 1 - i) = 1 from Nat.min_eq_left (by omega)]; rfl) (fun j u hj => by rw [Addr.add_lit, Nat.zero_add, hxW.cell]; simpa using hj) (by simp; omega) (surge_one x)
    rw [show splice (P1 ++ (Z.take 3 ++ Z.drop 3)).toArray.toList (i * 3) x.cells = P1 ++ (x.cells ++ Z.drop 3) from splice_mid _ _ _ _ _ (by omega) (by simp; omega)] at h
    exact h
  have hcp2 : ∀ (W : World), W.heap[w.heap.size]? = some (.cells (P1 ++ (x.cells ++ Z.drop 3)).toArray 44 (0, 0)) → W.heap[g]? = w.heap[g]? → ∀ ty dc sc, (Builtin.copy_ #[26, 26] ty #[.slice (some ⟨w.heap.size, (i + 1) * 3, none⟩) (l.length + 1 - (i + 1)) dc, .slice (some ⟨g, i * 3, none⟩) (l.length - i) sc]).run Try.prog W = .ok (goInt (Nat.min (l.length - i) (l.length + 1 - (i + 1)))) (W.setRow w.heap.size (P1 ++ (x.cells ++ (P2 ++ (Z.drop 3).drop P2.length))).toArray) := fun W k1 k2 ty dc sc => by
    have hgW : W.heap[g]? = some (.cells (l.flatMap SurgeD.cells ++ R).toArray 44 (0, 0)) := k2.trans hg
    have hdW := drop_cells hgW i (by omega)
    rw [eP2] at hdW
    have h := run_copy_rowK (P := Try.prog) W 26 26 ty 44 w.heap.size ((i + 1) * 3) (l.length + 1 - (i + 1)) dc ⟨g, i * 3, none⟩ (l.length - i) sc _ _ P2 3 Try.underlying26 hsz k1 (by rw [show Nat.min (l.length - i) (l.length + 1 - (i + 1)) = l.length - i from Nat.min_eq_left (by omega)]; exact hP2) hdW (by simp; omega) h1P
    have e : P1 ++ (x.cells ++ Z.drop 3) = (P1 ++ x.cells) ++ ((Z.drop 3).take P2.length ++ (Z.drop 3).drop P2.length) := by rw [List.take_append_drop, List.append_assoc]
    rw [show splice (P1 ++ (x.cells ++ Z.drop 3)).toArray.toList ((i + 1) * 3) P2 = P1 ++ (x.cells ++ (P2 ++ (Z.drop 3).drop P2.length)) from by
      show splice (P1 ++ (x.cells ++ Z.drop 3)) ((i + 1) * 3) P2 = _
      rw [e, splice_mid _ _ _ _ _ (by simp; omega) (by simp; omega), List.append_assoc]] at h
    exact h
  obtain ⟨Z2, hZ2⟩ : ∃ Z2, (Z.drop 3).drop P2.length = Z2 := ⟨_, rfl⟩
  have hZ2l : Z2.length + (l.length + 1) * 3 = G * 3 := by rw [← hZ2]; simp; omega
  rw [hZ2] at hcp2
  obtain ⟨Y, hY⟩ : ∃ Y, (P1 ++ (Z.take 3 ++ Z.drop 3)).toArray = Y := ⟨_, rfl⟩
  rw [hY] at hrz hcp1 hW0
  obtain ⟨Y1, hY1⟩ : ∃ Y, (P1 ++ (x.cells ++ Z.drop 3)).toArray = Y := ⟨_, rfl⟩
  rw [hY1] at hcp1 hcp2
  obtain ⟨Y2, hY2⟩ : ∃ Y, (P1 ++ (x.cells ++ (P2 ++ Z2))).toArray = Y := ⟨_, rfl⟩
  rw [hY2] at hcp2
  have HRZ := Lib.hid hrz
  have HC1 := Lib.hid hcp1
  have HC2 := Lib.hid hcp2
  have HW0 := Lib.hid hW0
  have HP1 := Lib.hid hP1
  have HP2 := Lib.hid hP2
  have E1 := Lib.hid eP1
  have E2 := Lib.hid eP2
  have E0 := Lib.hid (insL_flat SurgeD.cells l i x)
  have HY2 := Lib.hid hY2
  have HZ2 := Lib.hid hZ2l
  have hgN : g ≠ w.heap.size := by omega
  have hw1 : IntKind.i64.wrap ((i : Int) + 1) = (i : Int) + 1 := by rw [IntKind.wrap_i64]; omega
  have hb1 : (0 : Int) ≤ (i : Int) + 1 := by omega
  have htn : ((i : Int) + 1).toNat = i + 1 := by omega
  have hb2 : ¬ (G = i + 1) := by omega
  have hb6 : ¬ (G = i) := by omega
  have hb3 : (i : Int) ≤ (l.length : Int) + 1 := by omega
  have hb4 : ¬ (l.length = i) := by omega
  have hle1 : i ≤ l.length := by omega
  have hle2 : (i : Int) ≤ (l.length : Int) := by omega
  have mixed : Try.prog.follows .mixedOrders = true := by kernel_rfl
  unfold maxLen at hGm
  clear hrz hcp1 hcp2 hW0 hP hP1 hP2 eP1 eP2 hY hY1 hY2 hZ2 hZ2l hZl hROW hG hold hdc h1P hz0 hz1 hz2 hin hsz hg hx
  have hr1 := HC1.out (w.alloc (.cells Y 44)).drew (fun _ => rfl) 3 (G - i)
  obtain ⟨k1, k2⟩ := HW0.out (w.alloc (.cells Y 44)).drew (fun _ => rfl)
  obtain ⟨W1, hW1⟩ : ∃ W1, (w.alloc (.cells Y 44)).drew.setRow w.heap.size Y1 = W1 := ⟨_, rfl⟩
  rw [hW1] at hr1
  have s1 : W1.heap[w.heap.size]? = some (.cells Y1 44 (0, 0)) := by rw [← hW1]; exact setRow_heap _ _ _ _ _ _ k1
  have s2 : ∀ k, k < w.heap.size → W1.heap[k]? = w.heap[k]? := fun k hk => by rw [← hW1]; exact (setRow_other _ _ k _ (by omega)).trans (k2 k hk)
  have hr2 := HC2.out W1.drew s1 (s2 g hgw) 3 (G - (i + 1)) (l.length - i)
  have B1 := Lib.hid (show Below w.heap.size w (W1.drew.setRow w.heap.size Y2) from by
    rw [← hW1]
    exact below_setRow ((below_setRow (((Below.refl w.heap.size w).alloc (Nat.le_refl _) _).drew) (Nat.le_refl _) _).drew) (Nat.le_refl _) _)
  have S3 := Lib.hid (show (W1.drew.setRow w.heap.size Y2).heap[w.heap.size]? = some (.cells Y2 44 (0, 0)) from setRow_heap W1.drew _ _ _ _ _ s1)
  clear k1 k2 s1 s2 hW1
  go_enter Try.func82, Try.ntmps82
  go_wp2_with (at_builtin; refine Lib.wpList_append_run _ rfl _ _ _ _ rfl _ _ rfl rfl _ _ (HRZ.out _) ?_)
  go_region_law_o (refine step_copy_runI rfl _ _ 26 26 rfl (.slice (some ⟨w.heap.size, (i + 1) * 3, none⟩) (l.length + 1 - (i + 1)) (G - (i + 1))) (.slice (some ⟨g, i * 3, none⟩) (l.length - i) (l.length - i)) (by simp [Act.eval, Act.put]) (by simp [Act.eval, Act.put]) hr2 ?_)
  go_wp2
  go_ret
  have hlen := insL_length l i x (by omega)
  refine ⟨_, rfl, ?_, grown_of_below B1.out _⟩
  have e : Value.slice (some ⟨w.heap.size, 0, none⟩) (l.length + 1) G = .slice (some ⟨w.heap.size, 0, none⟩) (insL l i x).length G := by rw [hlen]
  show OwnOf 3 SurgeD.cells 44 _ base (Value.slice (some ⟨w.heap.size, 0, none⟩) (l.length + 1) G) (insL l i x)
  rw [e]
  refine own_of_block (R := Z2) surgeLen hbw ?_ (by omega) (by unfold maxLen; omega) ?_
  · rw [E0.out, E1.out, E2.out, List.append_assoc, List.append_assoc, HY2.out]
    exact S3.out
  · rw [E0.out, E1.out, E2.out]
    simp only [List.length_append, HP1.out, HP2.out, surgeLen]
    have := HZ2.out
    omega

end Go.Proofs.Ytbcbbolakjjglaa
