
/- What LocksLaw rests on, part 3: contracts and mathematics. -/
import Derived.Test.YtlddampjbmklkaaLk2
import Derived.Test.YtlddampjbmklkaaLk1
import Derived.Deep.AppendLies
import Derived.Deep.Upon
import Derived.Test.YtlddampjbmklkaaLk0
import Derived.Deep.RegionLaw
import Derived.Deep.DeepCutAuto
import Derived.StillTailTactics
namespace Go.Proofs.Ytlddampjbmklkaa
set_option maxRecDepth 100000
def chamB (k : ChamberD) : Bool := inB k.length 10 1000 && inB k.lanes 1 3 && inB k.minutes 1 120
def lensB (l : List Int) : Bool := decide (l.length ≤ 8) && l.all (fun n => inB n 1 400)
theorem chamB_true {k : ChamberD} (h : chamB k = true) : 10 ≤ k.length ∧ k.length ≤ 1000 ∧ 1 ≤ k.lanes ∧ k.lanes ≤ 3 ∧ 1 ≤ k.minutes ∧ k.minutes ≤ 120 := by
  unfold chamB inB at h
  simp only [Bool.and_eq_true, decide_eq_true_iff] at h
  omega
theorem lensB_len {l : List Int} (h : lensB l = true) : l.length ≤ 8 := by
  unfold lensB at h
  simp only [Bool.and_eq_true, decide_eq_true_iff] at h
  exact h.1
theorem lensB_at {l : List Int} (h : lensB l = true) {i : Nat} {n : Int} (hn : l[i]? = some n) : 1 ≤ n ∧ n ≤ 400 := by
  unfold lensB at h
  simp only [Bool.and_eq_true, List.all_eq_true] at h
  exact of_decide_eq_true (h.2 n (List.mem_of_getElem? hn))
/-- The first k lengths are right. -/
def LensTo (l : List Int) (k : Nat) : Prop := ∀ i n, i < k → l[i]? = some n → inB n 1 400 = true
theorem LensTo.next {l : List Int} {k : Nat} {n : Int} (h : LensTo l k) (hn : l[k]? = some n) (hb : inB n 1 400 = true) : LensTo l (k + 1) := fun i m hi hm => by
  by_cases e : i = k
  · subst e; rw [hn] at hm; injection hm with hm; rw [← hm]; exact hb
  · exact h i m (by omega) hm
theorem LensTo.all {l : List Int} (h : LensTo l l.length) (hl : l.length ≤ 8) : lensB l = true := by
  unfold lensB
  rw [decide_eq_true hl, Bool.true_and, List.all_eq_true]
  intro n hn
  obtain ⟨i, hi, e⟩ := List.getElem_of_mem hn
  exact h i n hi (by rw [List.getElem?_eq_getElem hi, e])
theorem lensB_long {l : List Int} (h : ¬ l.length ≤ 8) : lensB l = false := by unfold lensB; rw [decide_eq_false h]; rfl
theorem lensB_no {l : List Int} {i : Nat} {n : Int} (hn : l[i]? = some n) (hb : inB n 1 400 = false) : lensB l = false := by
  cases h : lensB l with
  | false => rfl
  | true =>
    have := lensB_at h hn
    exact absurd (show inB n 1 400 = true from decide_eq_true this) (by rw [hb]; simp)
/-- The least lane from j on in which a ship can lie so that the others can be packed behind it. -/
def laneR (L n : Int) (used : List Int) (rest : List Int → Option (List Int)) : Nat → Nat → Option (List Int)
  | _, 0 => none
  | j, m + 1 =>
    match (if used.getD j 0 + n ≤ L then rest (used.set j (used.getD j 0 + n)) else none) with
    | some out => some ((j : Int) :: out)
    | none => laneR L n used rest (j + 1) m
/-- The lexicographically least packing of the ships, on top of what is used. -/
def packR (L : Int) (lanes : Nat) : List Int → List Int → Option (List Int)
  | [], _ => some []
  | n :: l, used => laneR L n used (packR L lanes l) 0 lanes
/-- What lies in a lane. -/
def sumIn : List Int → List Int → Nat → Int
  | n :: l, s :: ss, j => (if s = (j : Int) then n else 0) + sumIn l ss j
  | _, _, _ => 0
/-- Whether a division into lanes fits on top of what is used. -/
def Fits (L : Int) (lanes : Nat) (l s used : List Int) : Prop := s.length = l.length ∧ (∀ x ∈ s, 0 ≤ x ∧ x < (lanes : Int)) ∧ ∀ j, j < lanes → used.getD j 0 + sumIn l s j ≤ L
theorem laneR_some {L n : Int} {used : List Int} {rest : List Int → Option (List Int)} : ∀ {m j : Nat} {o : List Int}, laneR L n used rest j m = some o → ∃ i out, j ≤ i ∧ i < j + m ∧ o = (i : Int) :: out ∧ used.getD i 0 + n ≤ L ∧ rest (used.set i (used.getD i 0 + n)) = some out
  | 0, j, o, h => by cases h
  | m + 1, j, o, h => by
    unfold laneR at h
    split at h
    · rename_i out hx
      injection h with e
      by_cases hf : used.getD j 0 + n ≤ L
      · rw [if_pos hf] at hx
        exact ⟨j, out, Nat.le_refl _, by omega, e.symm, hf, hx⟩
      · rw [if_neg hf] at hx; cases hx
    · obtain ⟨i, out, h1, h2, h3⟩ := laneR_some h
      exact ⟨i, out, by omega, by omega, h3⟩
theorem laneR_none {L n : Int} {used : List Int} {rest : List Int → Option (List Int)} : ∀ {m j : Nat}, laneR L n used rest j m = none → ∀ i, j ≤ i → i < j + m → used.getD i 0 + n ≤ L → rest (used.set i (used.getD i 0 + n)) = none
  | 0, j, _, i, h1, h2, _ => by omega
  | m + 1, j, h, i, h1, h2, hf => by
    unfold laneR at h
    split at h
    · cases h
    · rename_i hx
      by_cases e : i = j
      · subst e
        rw [if_pos hf] at hx
        exact hx
      · exact laneR_none h i (by omega) (by omega) hf
theorem getD_set_same (l : List Int) (i : Nat) (x : Int) (h : i < l.length) : (l.set i x).getD i 0 = x := by simp [List.getD, h]
theorem getD_set_other (l : List Int) {i j : Nat} (x : Int) (h : i ≠ j) : (l.set i x).getD j 0 = l.getD j 0 := by simp [List.getD, h]
/-- What is packed fits. -/
theorem packR_fits {L : Int} {lanes : Nat} : ∀ {l used s : List Int}, used.length = lanes → (∀ j, j < lanes → used.getD j 0 ≤ L) → packR L lanes l used = some s → Fits L lanes l s used
  | [], used, s, _, hu, h => by
    injection h with e
    subst e
    exact ⟨rfl, by simp, fun j hj => by simp [sumIn]; exact hu j hj⟩
  | n :: l, used, s, hl, hu, h => by
    obtain ⟨i, out, -, hi, rfl, hf, ho⟩ := laneR_some h
    have hil : i < used.length := by omega
    have ih := packR_fits (l := l) (used := used.set i (used.getD i 0 + n)) (by simpa using hl) (fun j hj => by
      by_cases e : i = j
      · subst e; rw [getD_set_same _ _ _ hil]; exact hf
      · rw [getD_set_other _ _ e]; exact hu j hj) ho
    obtain ⟨h1, h2, h3⟩ := ih
    refine ⟨by simp [h1], fun x hx => ?_, fun j hj => ?_⟩
    · rcases List.mem_cons.1 hx with rfl | hx
      · omega
      · exact h2 x hx
    · have := h3 j hj
      show used.getD j 0 + ((if (i : Int) = (j : Int) then n else 0) + sumIn l out j) ≤ L
      by_cases e : i = j
      · subst e; rw [getD_set_same _ _ _ hil] at this; rw [if_pos rfl]; omega
      · rw [getD_set_other _ _ e] at this; rw [if_neg (by omega)]; omega
/-- What is not packed fits in no way. -/
theorem packR_none {L : Int} {lanes : Nat} : ∀ {l used s : List Int}, used.length = lanes → (∀ n ∈ l, 0 ≤ n) → packR L lanes l used = none → ¬ Fits L lanes l s used
  | [], used, s, _, _, h => by cases h
  | n :: l, used, s, hl, hn, h => by
    rintro ⟨h1, h2, h3⟩
    cases s with
    | nil => simp at h1
    | cons x ss =>
      obtain ⟨x0, x1⟩ := h2 x (by simp)
      obtain ⟨i, rfl⟩ : ∃ i : Nat, x = (i : Int) := ⟨x.toNat, by omega⟩
      have hi : i < lanes := by omega
      have hil : i < used.length := by omega
      have pos : ∀ (l s : List Int) (j : Nat), (∀ n ∈ l, 0 ≤ n) → 0 ≤ sumIn l s j := by
        intro l
        induction l with
        | nil => intro s j _; simp [sumIn]
        | cons a l ih =>
          intro s j ha
          cases s with
          | nil => simp [sumIn]
          | cons b s =>
            have h1 := ih s j (fun x hx => ha x (by simp [hx]))
            have h2 := ha a (by simp)
            show 0 ≤ (if b = (j : Int) then a else 0) + sumIn l s j
            split <;> omega
      have hf : used.getD i 0 + n ≤ L := by
        have e := h3 i hi
        have : sumIn (n :: l) ((i : Int) :: ss) i = n + sumIn l ss i := by show (if (i : Int) = (i : Int) then n else 0) + _ = _; rw [if_pos rfl]
        rw [this] at e
        have := pos l ss i (fun x hx => hn x (by simp [hx]))
        omega
      have hr := laneR_none h i (Nat.zero_le _) (by omega) hf
      refine packR_none (s := ss) (by simpa using hl) (fun x hx => hn x (by simp [hx])) hr ⟨by simpa using h1, fun x hx => h2 x (by simp [hx]), fun j hj => ?_⟩
      have e := h3 j hj
      have e2 : sumIn (n :: l) ((i : Int) :: ss) j = (if (i : Int) = (j : Int) then n else 0) + sumIn l ss j := rfl
      rw [e2] at e
      by_cases hij : i = j
      · subst hij; rw [getD_set_same _ _ _ hil]; rw [if_pos rfl] at e; omega
      · rw [getD_set_other _ _ hij]; rw [if_neg (by omega)] at e; omega
def packO (k : ChamberD) (l : List Int) : Option (List Int) := if chamB k = true ∧ lensB l = true then packR k.length k.lanes.toNat l (List.replicate k.lanes.toNat 0) else none
theorem packO_bad {k : ChamberD} {l : List Int} (h : ¬ (chamB k = true ∧ lensB l = true)) : packO k l = none := if_neg h
theorem packO_ok {k : ChamberD} {l : List Int} (h1 : chamB k = true) (h2 : lensB l = true) : packO k l = packR k.length k.lanes.toNat l (List.replicate k.lanes.toNat 0) := if_pos ⟨h1, h2⟩
end Go.Proofs.Ytlddampjbmklkaa
namespace Go.Proofs.Ytlddampjbmklkaa
open Go.RowKit
section
variable {P : Program} (w : World)
theorem run_append_keeps (t ty : TypeId) (base : Nat) (e : TypeId) (i : TypeInfo) (z : Value) (size bytes : Nat) (ht : P.underlying t = some (.slice e)) (hi : P.info? e = some i) (hz : i.zero = some z)
    (hsize : i.size = size) (hby : i.bytes = bytes) (hzs : z.cells.size = size) (hsz : 0 < size)
    (v : Value) (n : Nat) (xs : List Value) (hown : w.ownsRow base e size v n xs)
    (ad : Addr) (m c : Nat) (news : List Value) (hl : news.length = m * size) (hnews : ∀ j u, news[j]? = some u → w.cell? (ad.add j) = some u) (h1 : ∀ u ∈ news, u.oneCell' = true)
    (hm : 0 < m) (h63 : n + m ≤ maxLen) (hbytes : (n + m) * bytes ≤ 140737488355328) (hbase : base ≤ w.heap.size) (H : Nat) (hH : w.heap.size = H) :
    ∃ g cap w', (Builtin.append_ #[t, t] ty #[v, .slice (some ad) m c]).run P w = .ok (.slice (some ⟨g, 0, none⟩) (n + m) cap) w' ∧
      w'.ownsRow base e size (.slice (some ⟨g, 0, none⟩) (n + m) cap) (n + m) (xs ++ news) ∧ w.grownBy w' v.ownBlock ∧ (v.ownBlock = some g ∨ g = H) ∧ g < w'.heap.size ∧ w'.ownsRow base e size v n xs := by
  obtain ⟨g, cap, w', hr, h2, h3, h4, h5⟩ := run_append_lies (P := P) w t ty base e i z size bytes ht hi hz hsize hby hzs hsz v n xs hown ad m c news hl hnews h1 hm h63 hbytes hbase H hH
  refine ⟨g, cap, w', hr, h2, h3, h4, h5, ?_⟩
  rcases hown.2 with ⟨rfl, rfl⟩ | ⟨g0, cap0, cur, rfl, hbg, hg, hnc, hcm, hcs, htake⟩
  · exact ⟨hown.1, .inl ⟨rfl, rfl⟩⟩
  · by_cases hroom : n + m ≤ cap0
    · have hmul : (n + m) * size ≤ cap0 * size := Nat.mul_le_mul_right _ hroom
      have hfit : n * i.size + news.length ≤ cur.size := by rw [hsize, hl, hcs, ← Nat.add_mul]; exact hmul
      have hr2 := run_append_room (P := P) w t ty e i ht hi g0 n cap0 cur hg ad m c news (by rw [hsize]; exact hl) hnews h1 hroom hfit
      rw [hr] at hr2
      injection hr2 with _ e2
      subst e2
      refine ⟨hown.1, .inr ⟨g0, cap0, _, rfl, hbg, setRow_heap w g0 cur _ e _ hg, hnc, hcm, ?_, ?_⟩⟩
      · simp only [List.size_toArray, List.length_append, List.length_take, List.length_drop, Array.length_toList]
        rw [hsize] at hfit ⊢
        omega
      · rw [hsize, htake]
        have hx := hown.1
        rw [List.append_assoc, ← hx]
        exact List.take_left
    · obtain ⟨v', w'', hr2, _, _, _, hf⟩ := run_append_own_full (P := P) w base t ty e i z size bytes ht hi hz hsize hby hzs hsz (.slice (some ⟨g0, 0, none⟩) n cap0) n xs hown ad m c news hl hnews h1 h63 hbytes hbase
      rw [hr] at hr2
      injection hr2 with _ e2
      subst e2
      exact World.ownsRow.kept hown (hf g0 cap0 rfl (by omega)) (.inr (by simp [Value.ownBlock]))
theorem step_append_keeps {ops : Array Oper} {o : Oper} {a : Act} {K : Act → World → Prop} {Q : Exit → Act → World → Prop} {E : Prop} (hgd : o.guard = none) (s x : Operand) (t : TypeId)
    (ho : o.op = .call { callee := .builtin .append, args := #[s, x], argTypes := #[t, t] })
    (base : Nat) (e : TypeId) (i : TypeInfo) (z : Value) (size bytes : Nat) (ht : P.underlying t = some (.slice e)) (hi : P.info? e = some i) (hz : i.zero = some z)
    (hsize : i.size = size) (hby : i.bytes = bytes) (hzs : z.cells.size = size) (hsz : 0 < size)
    (v : Value) (n : Nat) (xs : List Value) (hs : a.eval s = v) (hown : w.ownsRow base e size v n xs)
    (ad : Addr) (m c : Nat) (news : List Value) (hx : a.eval x = .slice (some ad) m c) (hl : news.length = m * size) (hnews : ∀ j u, news[j]? = some u → w.cell? (ad.add j) = some u) (h1 : ∀ u ∈ news, u.oneCell' = true)
    (hm : 0 < m) (h63 : n + m ≤ maxLen) (hbytes : (n + m) * bytes ≤ 140737488355328) (hbase : base ≤ w.heap.size)
    (h : ∀ g cap w', w'.ownsRow base e size (.slice (some ⟨g, 0, none⟩) (n + m) cap) (n + m) (xs ++ news) → w.grownBy w' v.ownBlock → (v.ownBlock = some g ∨ g = w.heap.size) → g < w'.heap.size → w'.ownsRow base e size v n xs → K (a.put o.dst (.slice (some ⟨g, 0, none⟩) (n + m) cap)) w') :
    if Region.wanted o (yielded ops a.tmps) = true then Oper.wp P o a w K Q else E := by
  have hw : Region.wanted o (yielded ops a.tmps) = true := by simp [Region.wanted, hgd]
  rw [if_pos hw]
  obtain ⟨g, cap, w', hr, h2, h3, h4, h5, h6⟩ := run_append_keeps (P := P) w t o.type base e i z size bytes ht hi hz hsize hby hzs hsz v n xs hown ad m c news hl hnews h1 hm h63 hbytes hbase _ rfl
  unfold Oper.wp execOp
  simp only [ho, resolve, invoke, builtin, Sem.run_bind, Sem.run_pure, Result.andThen_ok, List.map_toArray, List.map_cons, List.map_nil, hs, hx, hr]
  exact h g cap w' h2 h3 h4 h5 h6
/-- Nothing is appended. -/
theorem step_append_none {ops : Array Oper} {o : Oper} {a : Act} {K : Act → World → Prop} {Q : Exit → Act → World → Prop} {E : Prop} (hgd : o.guard = none) (s x : Operand) (t : TypeId)
    (ho : o.op = .call { callee := .builtin .append, args := #[s, x], argTypes := #[t, t] })
    (e : TypeId) (i : TypeInfo) (ht : P.underlying t = some (.slice e)) (hi : P.info? e = some i) (A : Option Addr) (n c : Nat) (hs : a.eval s = .slice A n c) (hle : n ≤ c) (B : Option Addr) (c' : Nat) (hx : a.eval x = .slice B 0 c')
    (h : K (a.put o.dst (.slice A n c)) w) :
    if Region.wanted o (yielded ops a.tmps) = true then Oper.wp P o a w K Q else E := by
  have hw : Region.wanted o (yielded ops a.tmps) = true := by simp [Region.wanted, hgd]
  rw [if_pos hw]
  have hsrc : Src P i.size t (.slice B 0 c') 0 [] w := by
    cases B with
    | none => exact Src.ofNil w ht c'
    | some b => exact Src.ofSlice w ht b 0 c' [] (by simp) (by simp) (by simp)
  have hr := run_append_nothing (P := P) w t t o.type e i ht hi A n c hle (.slice B 0 c') hsrc
  unfold Oper.wp execOp
  simp only [ho, resolve, invoke, builtin, Sem.run_bind, Sem.run_pure, Result.andThen_ok, List.map_toArray, List.map_cons, List.map_nil, hs, hx, hr]
  exact h
end
end Go.Proofs.Ytlddampjbmklkaa
namespace Go.Proofs.Ytlddampjbmklkaa
open Go.RowKit
set_option maxRecDepth 100000
theorem l01Once_any (p : Nat) (n : Int) (w : World) (h0 : 0 < n) (h1 : n ≤ 1000000) (hcur : Cursor w p) :
    Calls Try.prog 69 #[.pointer (some ⟨p, 0, none⟩), .int .i64 n] w fun e w' => ∃ b : Bool, e = .returned (.bool b) ∧ Cursor w' p ∧ w.grownBy w' (some p) := by
  have C := Lib.hid (l01Below_any p n w h0 h1 hcur)
  clear hcur
  go_enter Try.func69, Try.ntmps69
  go_wp2_with fail
  refine C.out.mono ?_
  rintro e w1 ⟨x, rfl, x0, x1, hc1, hg1⟩
  have HC := Lib.hid hc1
  have HG := Lib.hid hg1
  clear hc1 hg1
  go_wp2
  go_ret
  exact ⟨_, rfl, HC.out, HG.out⟩
section
variable {α : Type} {k : Nat} {cs : α → List Value} {t : TypeId}
end
end Go.Proofs.Ytlddampjbmklkaa
namespace Go.Proofs.Ytlddampjbmklkaa
open Go.RowKit
theorem l01In_nm (n lo hi : Int) (w : World) :
    Calls Try.prog 56 #[.int .i64 n, .int .i64 lo, .int .i64 hi] w fun e w' => e = .returned (.bool (nmIn n lo hi)) ∧ w = w' := by
  by_cases h1 : lo ≤ n
  · by_cases h2 : n ≤ hi
    · have hn := Lib.hid (show nmIn n lo hi = true from decide_eq_true ⟨h1, h2⟩)
      go_enter Try.func56, Try.ntmps56
      go_wp2
      go_ret
      exact ⟨ret_bool hn.out.symm, rfl⟩
    · have hn := Lib.hid (show nmIn n lo hi = false from decide_eq_false fun h => h2 h.2)
      go_enter Try.func56, Try.ntmps56
      go_wp2
      go_ret
      exact ⟨ret_bool hn.out.symm, rfl⟩
  · have hn := Lib.hid (show nmIn n lo hi = false from decide_eq_false fun h => h1 h.1)
    go_enter Try.func56, Try.ntmps56
    go_wp2
    go_ret
    exact ⟨ret_bool hn.out.symm, rfl⟩
set_option maxHeartbeats 1000000 in
theorem specIsName (s : ByteArray) (w : World) (hs : s.size ≤ maxLen) :
    Calls Try.prog 87 #[.string s] w fun e w' => e = .returned (.bool (nameB s)) ∧ w = w' := by
  unfold maxLen at hs
  go_enter Try.func87, Try.ntmps87
  go_wp2
  go_loop [3] (fun i => ∃ k : Nat, k ≤ s.size ∧ i = .int .i64 k ∧ Hid (preB (s.data.toList.take k) = true)) (fun i => s.size - (intOf i).toNat)
  case atStart => exact ⟨0, Nat.zero_le _, rfl, rfl⟩
  case round =>
    obtain ⟨k, hk, rfl, hd⟩ := hrel
    by_cases hlt : k < s.size
    · have hst := Lib.hid (nm_step s k hlt hd.out)
      by_cases h1 : 97 ≤ (s[k].toNat : Int) ∧ (s[k].toNat : Int) ≤ 122
      · obtain ⟨h1, h2⟩ := h1
        have hy := Lib.hid (hst.out.trans (nmAt_letter k h1 h2))
        clear hst
        go_wp2
        go_round
        case rel => exact ⟨k + 1, by omega, by go_num, hy⟩
        case measure => simp [intOf]; omega
      · have hl : (s[k].toNat : Int) < 97 ∨ 122 < (s[k].toNat : Int) := by omega
        by_cases hd2 : (48 ≤ (s[k].toNat : Int) ∧ (s[k].toNat : Int) ≤ 57) ∧ k ≠ 0
        · obtain ⟨⟨h3, h4⟩, h5⟩ := hd2
          have hy := Lib.hid (hst.out.trans (nmAt_digit h5 h3 h4))
          have h97 : ¬ 97 ≤ (s[k].toNat : Int) := by omega
          have hz : ((k : Int) == 0) = false := by simpa using h5
          clear hst hl h1 h5
          go_wp2
          go_round
          case rel => exact ⟨k + 1, by omega, by go_num, hy⟩
          case measure => simp [intOf]; omega
        · have hno : nmAt k (s[k].toNat : Int) = false := by
            by_cases hk0 : k = 0
            · subst hk0; exact nmAt_zero hl
            · exact nmAt_other k hl (by omega)
          have hn := Lib.hid (nm_not s k hlt hno)
          clear hst hno
          have hcase : (k = 0) ∨ (k ≠ 0 ∧ ((s[k].toNat : Int) < 48 ∨ 57 < (s[k].toNat : Int))) := by omega
          clear hd2 h1
          rcases hl with hl | hl
          · have h97 : ¬ 97 ≤ (s[k].toNat : Int) := by omega
            rcases hcase with h0 | ⟨h0, hq | hq⟩
            · have hz : ((k : Int) == 0) = true := by simpa using h0
              clear h0
              go_wp2
              go_ret
              exact ⟨ret_bool hn.out.symm, rfl⟩
            · have hz : ((k : Int) == 0) = false := by simpa using h0
              clear h0
              go_wp2
              go_ret
              exact ⟨ret_bool hn.out.symm, rfl⟩
            · have hz : ((k : Int) == 0) = false := by simpa using h0
              have hq' : ¬ (s[k].toNat : Int) < 48 := by omega
              clear h0
              go_wp2
              go_ret
              exact ⟨ret_bool hn.out.symm, rfl⟩
          · have h97 : 97 ≤ (s[k].toNat : Int) := by omega
            have h122 : ¬ (s[k].toNat : Int) ≤ 122 := by omega
            have h48 : ¬ (s[k].toNat : Int) < 48 := by omega
            have h57 : 57 < (s[k].toNat : Int) := by omega
            clear hcase
            by_cases h0 : k = 0
            · have hz : ((k : Int) == 0) = true := by simpa using h0
              clear h0
              go_wp2
              go_ret
              exact ⟨ret_bool hn.out.symm, rfl⟩
            · have hz : ((k : Int) == 0) = false := by simpa using h0
              clear h0
              go_wp2
              go_ret
              exact ⟨ret_bool hn.out.symm, rfl⟩
    · have hn := Lib.hid (nm_end s k (by omega) hd.out)
      go_wp2_with (go_at_call 56; refine (l01In_nm _ _ _ _).mono ?_; rintro e w' ⟨rfl, rfl⟩)
      go_ret
      exact ⟨ret_bool (Eq.trans (show nmIn (s.size : Int) 1 8 = decide (1 ≤ s.size ∧ s.size ≤ 8) from decide_eq_decide.2 (by omega)) hn.out.symm), rfl⟩
end Go.Proofs.Ytlddampjbmklkaa
namespace Go.Proofs.Ytlddampjbmklkaa
open Go.RowKit
set_option maxRecDepth 100000
structure LockD where
  start : Int
  up : Bool
  ships : List Int
/-- A locking in memory: the value that holds its ships, and what it reads as. -/
structure LockR where
  start : Int
  up : Bool
  v : Value
  ships : List Int
@[reducible] def LockR.cells (r : LockR) : List Value := [.int .i64 r.start, .bool r.up, r.v]
def LockR.d (r : LockR) : LockD := ⟨r.start, r.up, r.ships⟩
theorem lockRLen (r : LockR) : r.cells.length = 3 := rfl
/-- Lockings, read. -/
def RdLocks (w : World) (v : Value) (rows : List LockR) : Prop := SlOf 3 LockR.cells w v rows ∧ ∀ r ∈ rows, SlInt w r.v r.ships
theorem RdLocks.below {w w' : World} {v : Value} {rows : List LockR} (h : RdLocks w v rows) (hb : Below w.heap.size w w') : RdLocks w' v rows := ⟨h.1.below hb, fun r hr => (h.2 r hr).below hb⟩
theorem LockR.at {w : World} {l : List LockR} {g o : Nat} (hc : ∀ i x, l[i]? = some x → ∀ j u, (LockR.cells x)[j]? = some u → w.cell? ⟨g, o + i * 3 + j, none⟩ = some u) (i : Nat) (x : LockR) (hx : l[i]? = some x) :
    w.cell? ⟨g, o + i * 3, none⟩ = some (.int .i64 x.start) ∧ w.cell? ⟨g, o + i * 3 + 1, none⟩ = some (.bool x.up) ∧ w.cell? ⟨g, o + i * 3 + 2, none⟩ = some x.v := ⟨hc i x hx 0 _ rfl, hc i x hx 1 _ rfl, hc i x hx 2 _ rfl⟩
/-- Lockings of one's own: the row and every list of ships in a block of its own. -/
def OwnLocks (w : World) (base : Nat) (v : Value) (rows : List LockR) : Prop :=
  OwnOf 3 LockR.cells 38 w base v rows ∧ (∀ r ∈ rows, OwnInt w base r.v r.ships) ∧ rows.Pairwise (fun a b => ApartV a.v b.v) ∧ ∀ r ∈ rows, ApartV v r.v
theorem info_locking : (Try.prog.info? 38).map (fun i => (i.zero, i.size, i.bytes)) = some (some (.agg #[.int .i64 0, .bool false, .slice none 0 0]), 3, 40) := by kernel_rfl
/-- What toLockingS leaves: a list of one's own that reads as the rows do. -/
def NewLocks (rows : List LockR) (w : World) (e : Ending) (w' : World) : Prop := ∃ v rs, e = .returned v ∧ OwnLocks w' w.heap.size v rs ∧ rs.map LockR.d = rows.map LockR.d ∧ Below w.heap.size w w'
end Go.Proofs.Ytlddampjbmklkaa
namespace Go.Proofs.Ytlddampjbmklkaa
open Go.RowKit
set_option maxRecDepth 100000
set_option maxHeartbeats 1000000 in
theorem specHas (v : Value) (l : List Int) (t : Int) (w : World) (h : SlInt w v l) :
    Calls Try.prog 63 #[v, .int .i64 t] w fun e w' => e = .returned (.bool (l.any (· == t))) ∧ w = w' := by
  obtain ⟨hl, h⟩ := h
  rcases h with ⟨rfl, A, c, rfl⟩ | ⟨g, o, c, rfl, hp, hcap, hc⟩
  · go_enter Try.func63, Try.ntmps63
    go_wp2
    refine wp_loop_rounds 1 ?_
    rw [rounds_succ]
    go_wp2
    go_ret
    exact ⟨rfl, rfl⟩
  · have HC := Lib.hid hc
    clear hc
    go_enter Try.func63, Try.ntmps63
    go_wp2
    go_loop [9] (fun i => ∃ k : Nat, k ≤ l.length ∧ i = .int .i64 k ∧ Hid (NoOne (· == t) l k)) (fun i => l.length - (intOf i).toNat)
    case atStart => exact ⟨0, Nat.zero_le _, rfl, Lib.hid (NoOne.zero _ _)⟩
    case round =>
      obtain ⟨k, hk, rfl, hN⟩ := hrel
      by_cases hlt : k < l.length
      · obtain ⟨x, hx⟩ : ∃ x, l[k]? = some x := ⟨_, List.getElem?_eq_getElem hlt⟩
        have q0 := SlInt.cells HC.out k x hx
        have HX := Lib.hid hx
        clear hx
        cases he : (x == t) with
        | true =>
          have E := Lib.hid (show l.any (· == t) = true from List.any_eq_true.2 ⟨x, List.mem_of_getElem? HX.out, he⟩)
          go_wp2
          go_ret
          exact ⟨ret_bool E.out.symm, rfl⟩
        | false =>
          have N2 := Lib.hid (hN.out.next HX.out he)
          go_wp2
          go_round
          case rel => exact ⟨k + 1, by omega, by go_num, N2⟩
          case measure => simp [intOf]; omega
      · obtain rfl : k = l.length := by omega
        have E := Lib.hid (show l.any (· == t) = false from List.any_eq_false.2 fun x hx => by
          obtain ⟨j, hj⟩ := List.getElem?_of_mem hx
          have h := hN.out j (List.getElem?_eq_some_iff.1 hj).1 x hj
          simpa using h)
        go_wp2
        go_ret
        exact ⟨ret_bool E.out.symm, rfl⟩
end Go.Proofs.Ytlddampjbmklkaa
namespace Go.Proofs.Ytlddampjbmklkaa
open Go.RowKit
set_option maxRecDepth 100000
set_option maxHeartbeats 1000000 in
theorem indexInt_any (v : Value) (l : List Int) (t : Int) (w : World) (h : SlInt w v l) :
    Calls Try.prog 75 #[v, .int .i64 t] w fun e w' => e = .returned (.int .i64 (firstI (fun x => t == x) l)) ∧ w = w' := by
  obtain ⟨hl, h⟩ := h
  rcases h with ⟨rfl, A, c, rfl⟩ | ⟨g, o, c, rfl, hp, hcap, hc⟩
  · go_enter Try.func75, Try.ntmps75
    go_wp2
    refine wp_loop_rounds 1 ?_
    rw [rounds_succ]
    go_wp2
    go_ret
    exact ⟨rfl, rfl⟩
  · have HC := Lib.hid hc
    clear hc
    go_enter Try.func75, Try.ntmps75
    go_wp2
    go_loop [8] (fun i => ∃ k : Nat, k ≤ l.length ∧ i = .int .i64 k ∧ Hid (NoOne (fun x => t == x) l k)) (fun i => l.length - (intOf i).toNat)
    case atStart => exact ⟨0, Nat.zero_le _, rfl, Lib.hid (NoOne.zero _ _)⟩
    case round =>
      obtain ⟨k, hk, rfl, hN⟩ := hrel
      by_cases hlt : k < l.length
      · obtain ⟨x, hx⟩ : ∃ x, l[k]? = some x := ⟨_, List.getElem?_eq_getElem hlt⟩
        have q0 := SlInt.cells HC.out k x hx
        have HX := Lib.hid hx
        clear hx
        cases he : (t == x) with
        | true =>
          have E := Lib.hid (firstI_at hN.out HX.out he)
          go_wp2
          go_ret
          exact ⟨ret_int E.out.symm, rfl⟩
        | false =>
          have N2 := Lib.hid (hN.out.next HX.out he)
          go_wp2
          go_round
          case rel => exact ⟨k + 1, by omega, by go_num, N2⟩
          case measure => simp [intOf]; omega
      · obtain rfl : k = l.length := by omega
        have E := Lib.hid (firstI_none hN.out)
        go_wp2
        go_ret
        exact ⟨ret_int E.out.symm, rfl⟩
theorem first_any (l : List Int) (t : Int) : decide (0 ≤ firstI (fun x => t == x) l) = l.any (· == t) := by
  unfold firstI
  cases h : l.findIdx? (fun x => t == x) with
  | none =>
    rw [List.findIdx?_eq_none_iff] at h
    rw [List.any_eq_false.2 (fun x hx => by have := h x hx; simp at this ⊢; exact fun e => this e.symm)]; rfl
  | some i =>
    rw [List.findIdx?_eq_some_iff_getElem] at h
    obtain ⟨hi, hj, _⟩ := h
    rw [List.any_eq_true.2 ⟨_, List.getElem_mem hi, by simp at hj ⊢; exact hj.symm⟩]
    exact decide_eq_true (show (0 : Int) ≤ (i : Int) by omega)
theorem contains_any (v : Value) (l : List Int) (t : Int) (w : World) (h : SlInt w v l) :
    Calls Try.prog 49 #[v, .int .i64 t] w fun e w' => e = .returned (.bool (l.any (· == t))) ∧ w = w' := by
  have HS := Lib.hid h
  have E := Lib.hid (first_any l t)
  obtain ⟨A, c, rfl⟩ := h.at
  clear h
  go_enter Try.func49, Try.ntmps49
  go_wp2_with fail
  refine (indexInt_any _ l t _ HS.out).mono ?_
  rintro e w2 ⟨rfl, rfl⟩
  go_wp2
  go_ret
  exact ⟨ret_bool E.out, rfl⟩
end Go.Proofs.Ytlddampjbmklkaa
