/- The helpers szStringS and toStringS, and spec.Join: contracts over slices that read as lists of strings. -/
import Derived.Test.YtpcmiohnhbaciaaStrs
import Derived.Test.YtpcmiohnhbaciaaJoinPlain
namespace Go.Proofs.Ytpcmiohnhbaciaa
open Go.RowKit

/-! ### szStringS -/
/-- What szStringS answers: a negative number, or there is room for all. -/
def Sized (l : List ByteArray) (lim : Nat) (w : World) (e : Ending) (w' : World) : Prop :=
  ∃ r : Int, e = .returned (.int .i64 r) ∧ w = w' ∧ (r < 0 ∨ 0 ≤ r ∧ l.length + totS l ≤ lim)

theorem szStringS_long (A : Option Addr) (n c : Nat) (l : List ByteArray) (w : World) (hn : 1048576 < n) (hmax : n ≤ 9223372036854775807) :
    Calls Try.prog 20 #[.slice A n c, .int .i64 1048576] w (Sized l 1048576 w) := by
  go_enter Try.func20, Try.ntmps20
  go_wp2
  go_ret
  exact ⟨-1, rfl, rfl, .inl (by decide)⟩

set_option maxHeartbeats 1000000 in
theorem szStringS_any (v : Value) (l : List ByteArray) (w : World) (h : SlS w v l) (hn : l.length ≤ 1048576) (hsz : ∀ x ∈ l, x.size ≤ 9223372036854775807) :
    Calls Try.prog 20 #[v, .int .i64 1048576] w (Sized l 1048576 w) := by
  obtain ⟨hl, h⟩ := h
  rcases h with ⟨rfl, A, c, rfl⟩ | ⟨g, o, c, rfl, hp, hcap, hc⟩
  · go_enter Try.func20, Try.ntmps20
    go_wp2
    refine wp_loop_rounds 1 ?_
    rw [rounds_succ]
    go_wp2
    go_ret
    exact ⟨1048576, rfl, rfl, .inr ⟨by decide, by decide⟩⟩
  · have HC := Lib.hid hc
    have HS := Lib.hid hsz
    clear hc hsz
    go_enter Try.func20, Try.ntmps20
    go_wp2
    go_loop [1, 5] (fun q i => ∃ (k : Nat) (r : Int), k ≤ l.length ∧ i = .int .i64 k ∧ q = .int .i64 r ∧ 0 ≤ r ∧ r ≤ 1048576 ∧ Hid (r = 1048576 - (l.length : Int) - (totS (l.take k) : Nat))) (fun _ i => l.length - (intOf i).toNat)
    case atStart => exact ⟨0, _, Nat.zero_le _, rfl, rfl, by omega, by omega, by show _ = _; simp [totS]⟩
    case round =>
      obtain ⟨k, r, hk, rfl, rfl, hr0, hr1, hr⟩ := hrel
      by_cases hlt : k < l.length
      · obtain ⟨x, hx⟩ : ∃ x, l[k]? = some x := ⟨_, List.getElem?_eq_getElem hlt⟩
        have hcell := HC.out k x hx
        have hxs := HS.out x (List.mem_of_getElem? hx)
        have hto := Lib.hid (totS_take l k x hx)
        clear hx
        by_cases hneg : r - (x.size : Int) < 0
        · go_wp2
          go_ret
          exact ⟨-1, rfl, rfl, .inl (by decide)⟩
        · go_wp2
          go_round
          case rel => exact ⟨k + 1, r - (x.size : Int), by omega, by go_num, rfl, by omega, by omega, by have h1 := hr.out; have h2 := hto.out; show _ = _; rw [h2]; omega⟩
          case measure => simp [intOf]; omega
      · go_wp2
        go_ret
        obtain rfl : k = l.length := by omega
        refine ⟨r, rfl, rfl, .inr ⟨hr0, ?_⟩⟩
        have h1 := hr.out
        rw [List.take_length] at h1
        omega

/-! ### toStringS -/
theorem make_strs (n : Nat) (hn : n ≤ 1000000000) (W : World) :
    (Instr.makeSlice 23 (.int .i64 (n : Int)) (.int .i64 (n : Int))).run Try.prog W = .ok (.slice (some ⟨W.heap.size, 0, none⟩) n n) (W.alloc (.cells (madeCells #[.string ⟨#[]⟩] n) 9)) := by
  obtain ⟨i0, hi, hz0, hz1, hz2⟩ := info_parts info_str
  have hr := run_make (P := Try.prog) W 23 9 i0 _ Try.underlying23 hi hz0 .i64 .i64 n n (by omega) (Int.le_refl _) (by rw [hz2]; omega) (by omega)
  simp only [Int.toNat_natCast, hz1, Nat.mul_one] at hr
  exact hr

def halfRow (l : List ByteArray) (k : Nat) : List Value := (l.take k).map Value.string ++ List.replicate (l.length - k) (.string ⟨#[]⟩)
theorem halfRow_set (l : List ByteArray) (k : Nat) (x : ByteArray) (h : l[k]? = some x) : (halfRow l k).set k (.string x) = halfRow l (k + 1) := by
  have hk : k < l.length := (List.getElem?_eq_some_iff.1 h).1
  unfold halfRow
  rw [List.take_add_one, h]
  have h2 : l.length - k = (l.length - (k + 1)) + 1 := by omega
  have h3 : ((l.take k).map Value.string).length = k := by simp; omega
  rw [h2, List.replicate_succ, List.set_append_right _ _ (by omega), h3, Nat.sub_self, List.set_cons_zero]
  simp
theorem halfRow_at (l : List ByteArray) (k : Nat) (h : k < l.length) : (halfRow l k)[k]? = some (.string ⟨#[]⟩) := by
  unfold halfRow
  have h3 : ((l.take k).map Value.string).length = k := by simp; omega
  rw [List.getElem?_append_right (by omega), h3, Nat.sub_self, List.getElem?_replicate, if_pos (by omega)]

set_option maxHeartbeats 1000000 in
theorem toStringS_any (v : Value) (l : List ByteArray) (w : World) (h : SlS w v l) :
    Calls Try.prog 22 #[v] w (NewStrs l w) := by
  obtain ⟨hl, h⟩ := h
  have hmk := make_strs l.length hl
  rcases h with ⟨rfl, A, c, rfl⟩ | ⟨g, o, c, rfl, hp, hcap, hc⟩
  · have hmk0 : ∀ W : World, (Instr.makeSlice 23 (.int .i64 0) (.int .i64 0)).run Try.prog W = .ok (.slice (some ⟨W.heap.size, 0, none⟩) 0 0) (W.alloc (.cells (madeCells #[.string ⟨#[]⟩] 0) 9)) := make_strs 0 (by omega)
    clear hmk
    go_enter Try.func22, Try.ntmps22
    go_wp2
    refine wp_loop_rounds 1 ?_
    rw [rounds_succ]
    go_wp2
    go_ret
    have h := World.ownsRow_lit (base := w.heap.size) (e := 9) (size := 1) w (madeCells #[.string ⟨#[]⟩] 0) 0 (Nat.le_refl _) (by decide) (by rw [size_madeCells])
    rw [toList_madeCells_one] at h
    exact ⟨_, rfl, h, (Below.refl _ _).alloc (Nat.le_refl _) _⟩
  · have HC := Lib.hid hc
    clear hc
    go_enter Try.func22, Try.ntmps22
    go_wp2
    clear hmk
    go_loopw [4] (fun i wr => ∃ k : Nat, k ≤ l.length ∧ i = .int .i64 k ∧ Hid (wr.ownsRow w.heap.size 9 1 (.slice (some ⟨w.heap.size, 0, none⟩) l.length l.length) l.length (halfRow l k)) ∧ Below w.heap.size w wr) (fun i _ => l.length - (intOf i).toNat)
    case atStart =>
      refine ⟨0, Nat.zero_le _, rfl, ?_, (Below.refl _ _).alloc (Nat.le_refl _) _⟩
      have h := World.ownsRow_lit (base := w.heap.size) (e := 9) (size := 1) w (madeCells #[.string ⟨#[]⟩] l.length) l.length (Nat.le_refl _) (by unfold maxLen; omega) (by rw [size_madeCells]; omega)
      rw [toList_madeCells_one] at h
      exact Lib.hid (by simpa [halfRow] using h)
    case round =>
      obtain ⟨k, hk, rfl, hown, hb⟩ := hrel
      by_cases hlt : k < l.length
      · obtain ⟨x, hx⟩ : ∃ x, l[k]? = some x := ⟨_, List.getElem?_eq_getElem hlt⟩
        have hlt2 : g < w.heap.size := World.block_lt_of_cell? w ⟨g, o + k, none⟩ (HC.out k x hx)
        have hcell : wr.cell? ⟨g, o + k, none⟩ = some (.string x) := (hb.cell (p := ⟨g, o + k, none⟩) hlt2).trans (HC.out k x hx)
        have hold : wr.cell? ⟨w.heap.size, k, none⟩ = some (.string ⟨#[]⟩) := (World.ownsRow.cellAt hown.out k (by omega)).trans (halfRow_at l k hlt)
        have hfz : wr.frozen? ⟨w.heap.size, k, none⟩ = false := World.ownsRow.frozenAt hown.out k
        have hst := World.ownsRow.stored hown.out k (.string x)
        rw [halfRow_set l k x hx] at hst
        have HO := Lib.hid hst.1
        have hB : Below w.heap.size w (wr.setCell ⟨w.heap.size, k, none⟩ (.string x)) := hb.setCell (p := ⟨w.heap.size, k, none⟩) (Nat.le_refl _) _
        clear hst hx
        go_wp2
        go_roundw
        case rel => exact ⟨k + 1, by omega, by go_num, HO, hB⟩
        case measure => simp [intOf]; omega
      · go_wp2
        go_ret
        obtain rfl : k = l.length := by omega
        refine ⟨_, rfl, ?_, hb⟩
        have h := hown.out
        have e : halfRow l l.length = l.map Value.string := by unfold halfRow; simp
        rw [e] at h
        exact h

/-! ### spec.Join -/
set_option maxHeartbeats 1000000 in
theorem specJoin (v : Value) (l : List ByteArray) (sep : ByteArray) (w : World) (h : SlS w v l) (ht : l.length + totS l ≤ 1048576) (hs : sep.size ≤ 1048576) :
    Calls Try.prog 21 #[v, .string sep] w fun e w' => e = .returned (.string (joinOf l sep)) ∧ w = w' := by
  obtain ⟨hl, h⟩ := h
  rcases h with ⟨rfl, A, c, rfl⟩ | ⟨g, o, c, rfl, hp, hcap, hc⟩
  · go_enter Try.func21, Try.ntmps21
    go_wp2
    refine wp_loop_rounds 1 ?_
    rw [rounds_succ]
    go_wp2
    go_ret
    exact ⟨rfl, rfl⟩
  · have HC := Lib.hid hc
    clear hc
    go_enter Try.func21, Try.ntmps21
    go_wp2
    go_loop [5, 10] (fun q i => ∃ (k : Nat) (t : ByteArray), k ≤ l.length ∧ i = .int .i64 k ∧ q = .string t ∧ Hid (t = joinOf (l.take k) sep)) (fun _ i => l.length - (intOf i).toNat)
    case atStart => exact ⟨0, _, Nat.zero_le _, rfl, rfl, rfl⟩
    case round =>
      obtain ⟨k, t, hk, rfl, rfl, hj⟩ := hrel
      have htz : t.size ≤ 1099512676352 := by rw [hj.out]; exact joinOf_take_size l sep k ht hs
      by_cases hlt : k < l.length
      · obtain ⟨x, hx⟩ : ∃ x, l[k]? = some x := ⟨_, List.getElem?_eq_getElem hlt⟩
        have hcell := HC.out k x hx
        have hxs : x.size ≤ 1048576 := by
          have h1 := totS_take l k x hx
          have h2 := totS_le l (k + 1)
          omega
        have htk := Lib.hid (show l.take (k + 1) = l.take k ++ [x] by rw [List.take_add_one, hx]; rfl)
        clear hx
        by_cases hk0 : 0 < k
        · have hne : l.take k ≠ [] := by
            intro e
            have := congrArg List.length e
            rw [List.length_take, List.length_nil] at this
            omega
          have HN := Lib.hid (joinOf_snoc (l.take k) x sep hne)
          clear hne
          go_wp2
          go_round
          case rel => exact ⟨k + 1, _, by omega, by go_num, rfl, by show _ = _; rw [htk.out, HN.out, ← hj.out]⟩
          case measure => simp [intOf]; omega
        · have HK : Hid (k = 0) := by show _ = _; omega
          have HN : Hid (t = ⟨#[]⟩) := by rw [hj.out, HK.out]; rfl
          go_wp2
          go_round
          case rel => exact ⟨k + 1, _, by omega, by go_num, rfl, by show _ = _; rw [htk.out, HK.out, List.take_zero, List.nil_append, joinOf_one, HN.out]; apply ba_ext; simp [ByteArray.data_append]⟩
          case measure => simp [intOf]; omega
      · go_wp2
        go_ret
        obtain rfl : k = l.length := by omega
        exact ⟨ret_str (by rw [hj.out, List.take_length]), rfl⟩

end Go.Proofs.Ytpcmiohnhbaciaa
