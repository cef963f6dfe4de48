
/- CommonWindows of the program and of the model: contracts. -/
import Derived.Test.YtmjdlkninibocaaSeq
import Derived.Test.YtmjdlkninibocaaWinMath
import Derived.BigRegionIn
import Derived.Sort.CutIn
import Derived.Test.YtmjdlkninibocaaHeldIn
namespace Go.Proofs.Ytmjdlkninibocaa
open Go.RowKit Go.Shelf
set_option maxRecDepth 100000
attribute [local go_sem] Oper.semAt_some

def commonL (a b : List WindowD) : List WindowD := if winB a = true ∧ winB b = true then commF a b else []
theorem commonL_bad {a b : List WindowD} (h : winB a = false) : commonL a b = [] := by unfold commonL; rw [h]; simp
theorem commonL_bad' {a b : List WindowD} (h : winB b = false) : commonL a b = [] := by unfold commonL; rw [h]; simp
theorem commonL_ok {a b : List WindowD} (h : winB a = true) (h' : winB b = true) : commonL a b = commF a b := by unfold commonL; rw [h, h']; simp
theorem commonL_len (a b : List WindowD) : (commonL a b).length ≤ a.length + b.length := by
  unfold commonL; split
  · exact commF_len a b
  · simp
theorem SlWindow.place {w : World} {A : Option Addr} {c : Nat} {l : List WindowD} (h : SlWindow w (.slice A l.length c) l) {k : Nat} {x : WindowD} (hx : l[k]? = some x) :
    ∃ g o, A = some ⟨g, o, none⟩ ∧ g < w.heap.size ∧ w.cell? ⟨g, o + k * 2, none⟩ = some (.int .i64 x.fr) ∧ w.cell? ⟨g, o + k * 2 + 1, none⟩ = some (.int .i64 x.tt) := by
  obtain ⟨hl, h⟩ := h
  rcases h with ⟨rfl, _⟩ | ⟨g, o, c', e, hp, hcap, hc⟩
  · simp at hx
  · injection e with e1 _ _
    obtain ⟨p0, p1⟩ := SlWindow.cells hc k x hx
    exact ⟨g, o, e1, World.block_lt_of_cell? w ⟨g, o + k * 2, none⟩ p0, p0, p1⟩
/-- What is still to come. -/
theorem commF_end {a b acc : List WindowD} {i k : Nat} (h : acc ++ commF (a.drop i) (b.drop k) = commF a b) (he : a.length ≤ i ∨ b.length ≤ k) : commF a b = acc := by
  rw [← h]
  rcases he with he | he
  · rw [List.drop_eq_nil_of_le he, commF_nil, List.append_nil]
  · rw [List.drop_eq_nil_of_le he, commF_nil', List.append_nil]
theorem drop_at {l : List WindowD} {k : Nat} {x : WindowD} (h : l[k]? = some x) : l.drop k = x :: l.drop (k + 1) := by
  obtain ⟨hk, e⟩ := List.getElem?_eq_some_iff.1 h
  rw [List.drop_eq_getElem_cons hk, e]
theorem commF_left {a b acc : List WindowD} {i k : Nat} {x y : WindowD} (h : acc ++ commF (a.drop i) (b.drop k) = commF a b) (hx : a[i]? = some x) (hy : b[k]? = some y) (hlt : x.tt < y.tt) :
    (acc ++ meet x y) ++ commF (a.drop (i + 1)) (b.drop k) = commF a b := by
  rw [← h, drop_at hx, drop_at hy, commF_cons, if_pos hlt, List.append_assoc]
theorem commF_right {a b acc : List WindowD} {i k : Nat} {x y : WindowD} (h : acc ++ commF (a.drop i) (b.drop k) = commF a b) (hx : a[i]? = some x) (hy : b[k]? = some y) (hlt : ¬ x.tt < y.tt) :
    (acc ++ meet x y) ++ commF (a.drop i) (b.drop (k + 1)) = commF a b := by
  rw [← h, drop_at hx, drop_at hy, commF_cons, if_neg hlt, List.append_assoc]
theorem meetQ {x y : WindowD} {M m : Int} (hM : max x.fr y.fr = M) (hm : min x.tt y.tt = m) : meet x y = if M ≤ m then [⟨M, m⟩] else [] := by subst hM; subst hm; rfl
theorem grown_alloc_drew (w : World) (o : Obj) : w.grownBy (w.alloc o).drew none := ⟨rfl, rfl, rfl, by simp, fun k hk _ => Below.heap_alloc w o k hk⟩
theorem grown_drew (w : World) : w.grownBy w.drew none := ⟨rfl, rfl, rfl, Nat.le_refl _, fun _ _ _ => rfl⟩
theorem meet_yes {x y : WindowD} (h : max x.fr y.fr ≤ min x.tt y.tt) : meet x y = [⟨max x.fr y.fr, min x.tt y.tt⟩] := by unfold meet; rw [if_pos h]
theorem meet_no {x y : WindowD} (h : ¬ max x.fr y.fr ≤ min x.tt y.tt) : meet x y = [] := by unfold meet; rw [if_neg h]

set_option maxHeartbeats 8000000 in
theorem common1 (A A' : Option Addr) (c c' : Nat) (a b : List WindowD) (Ba Bb : Nat) (w : World) (ha : SlWindow w (.slice A a.length c) a) (hb : SlWindow w (.slice A' b.length c') b) (hBa : Ba < w.heap.size) (hBb : Bb < w.heap.size)
    (hca : w.cell? ⟨Ba, 0, none⟩ = some (.slice A a.length c)) (hcb : w.cell? ⟨Bb, 0, none⟩ = some (.slice A' b.length c')) :
    SeqW 50 #[.pointer (some ⟨Ba, 0, none⟩), .pointer (some ⟨Bb, 0, none⟩)] (Kp2 36 w.heap.size) (a.length + b.length) (commF a b) w := by
  intro n hn lp J Jx W hW hJ hJx hY h0
  have hla := ha.1
  have hlb := hb.1
  have HA := Lib.hid ha
  have HB := Lib.hid hb
  have HCA := Lib.hid hca
  have HCB := Lib.hid hcb
  have HJ := Lib.hid hJ
  have HY := Lib.hid hY
  have H0 := Lib.hid h0
  have HW := Lib.hid hW
  clear hJ hJx hY h0 hW ha hb hca hcb
  change CallsIn Fence.wide n Try.prog 50 #[.func (.yield lp) #[] #[], .pointer (some ⟨Ba, 0, none⟩), .pointer (some ⟨Bb, 0, none⟩)] W _
  refine callsIn_of_wp Try.func50 rfl trivial ?_ rfl
  simp only [Try.ntmps50, List.size_toArray, List.length_cons, List.length_nil, Nat.reduceAdd, Nat.reduceSub, Array.replicate_succ, Array.replicate_zero, List.push_toArray, List.append_toArray, List.nil_append, List.cons_append]
  gi_wp2
  gi_loopw [4, 5] (fun p q wr => ∃ (i k : Nat) (acc : List WindowD), i ≤ a.length ∧ k ≤ b.length ∧ p = .int .i64 i ∧ q = .int .i64 k ∧ Hid (acc ++ commF (a.drop i) (b.drop k) = commF a b) ∧ acc.length ≤ i + k ∧ Hid (J acc wr) ∧ Hid (Below w.heap.size w wr) ∧ w.heap.size ≤ wr.heap.size) (fun p q _ => (a.length - (intOf p).toNat) + (b.length - (intOf q).toNat))
  case atStart => exact ⟨0, 0, [], Nat.zero_le _, Nat.zero_le _, rfl, rfl, Lib.hid rfl, Nat.le_refl _, H0, HW, HW.out.size⟩
  case round =>
    obtain ⟨i, k, acc, hi, hk, rfl, rfl, hE, hal, hJs, hbw, hsz⟩ := hrel
    have xa := (hbw.out.cell (p := ⟨Ba, 0, none⟩) hBa).trans HCA.out
    have xb := (hbw.out.cell (p := ⟨Bb, 0, none⟩) hBb).trans HCB.out
    by_cases hia : i < a.length
    rotate_left
    · have E := Lib.hid (commF_end hE.out (.inl (by omega)))
      gi_wp2
      go_end0
      exact ⟨⟨_, rfl⟩, .inl ⟨_, E.out.symm, hJs.out⟩⟩
    · by_cases hkb : k < b.length
      rotate_left
      · have E := Lib.hid (commF_end hE.out (.inr (by omega)))
        gi_wp2
        go_end0
        exact ⟨⟨_, rfl⟩, .inl ⟨_, E.out.symm, hJs.out⟩⟩
      · obtain ⟨x, hx⟩ : ∃ x, a[i]? = some x := ⟨_, List.getElem?_eq_getElem hia⟩
        obtain ⟨y, hy⟩ : ∃ y, b[k]? = some y := ⟨_, List.getElem?_eq_getElem hkb⟩
        obtain ⟨g, o, rfl, hg, p0, p1⟩ := HA.out.place hx
        obtain ⟨g', o', rfl, hg', q0, q1⟩ := HB.out.place hy
        have a0 := (hbw.out.cell (p := ⟨g, o + i * 2, none⟩) hg).trans p0
        have a1 := (hbw.out.cell (p := ⟨g, o + i * 2 + 1, none⟩) hg).trans p1
        have b0 := (hbw.out.cell (p := ⟨g', o' + k * 2, none⟩) hg').trans q0
        have b1 := (hbw.out.cell (p := ⟨g', o' + k * 2 + 1, none⟩) hg').trans q1
        have HX := Lib.hid hx
        have HY' := Lib.hid hy
        have P0 := Lib.hid p0
        have P1 := Lib.hid p1
        have Q0 := Lib.hid q0
        have Q1 := Lib.hid q1
        clear p0 p1 q0 q1 hx hy
        have z1 : Ba < wr.heap.size := by omega
        have z2 : Bb < wr.heap.size := by omega
        have z3 : g < wr.heap.size := by omega
        have z4 : g' < wr.heap.size := by omega
        have n1 : Ba ≠ wr.heap.size := by omega
        have n2 : Bb ≠ wr.heap.size := by omega
        have n3 : g ≠ wr.heap.size := by omega
        have n4 : g' ≠ wr.heap.size := by omega
        obtain ⟨M, hM⟩ : ∃ M, max x.fr y.fr = M := ⟨_, rfl⟩
        obtain ⟨m, hm⟩ : ∃ m, min x.tt y.tt = m := ⟨_, rfl⟩
        have EM := Lib.hid (meetQ hM hm)
        have eM : (if x.fr < y.fr then y.fr else x.fr) = M := by rw [← hM]; split <;> omega
        have em : (if y.tt < x.tt then y.tt else x.tt) = m := by rw [← hm]; split <;> omega
        have EMM := Lib.hid eM
        have Emm := Lib.hid em
        clear hM hm eM em
        gi_upto_region 2 with fail
        gi_cut [6] from 7 (fun p wc => ∃ B, p = .pointer (some ⟨B, 0, none⟩) ∧ wc.cell? ⟨B, 0, none⟩ = some (.int .i64 M) ∧ wc.cell? ⟨B, 1, none⟩ = some (.int .i64 m) ∧ Hid (Below w.heap.size w wc) ∧ Hid (J acc wc))
        case first =>
          rename_i Jc Kc hJc hKc
          have HS := Lib.hid (fun (W' : World) (hb : Below wr.heap.size wr W') => show (fun w' => w'.cell? ⟨Ba, 0, none⟩ = some (.slice (some ⟨g, o, none⟩) a.length c) ∧ w'.cell? ⟨Bb, 0, none⟩ = some (.slice (some ⟨g', o', none⟩) b.length c') ∧ w'.cell? ⟨g, o + i * 2, none⟩ = some (.int .i64 x.fr) ∧ w'.cell? ⟨g, o + i * 2 + 1, none⟩ = some (.int .i64 x.tt) ∧ w'.cell? ⟨g', o' + k * 2, none⟩ = some (.int .i64 y.fr) ∧ w'.cell? ⟨g', o' + k * 2 + 1, none⟩ = some (.int .i64 y.tt)) W' from ⟨(hb.cell (p := ⟨Ba, 0, none⟩) z1).trans xa, (hb.cell (p := ⟨Bb, 0, none⟩) z2).trans xb, (hb.cell (p := ⟨g, o + i * 2, none⟩) z3).trans a0, (hb.cell (p := ⟨g, o + i * 2 + 1, none⟩) z3).trans a1, (hb.cell (p := ⟨g', o' + k * 2, none⟩) z4).trans b0, (hb.cell (p := ⟨g', o' + k * 2 + 1, none⟩) z4).trans b1⟩)
          clear a0 a1 b0 b1 xa xb
          refine wpIn_region_heldIn (S := fun w' => w'.cell? ⟨Ba, 0, none⟩ = some (.slice (some ⟨g, o, none⟩) a.length c) ∧ w'.cell? ⟨Bb, 0, none⟩ = some (.slice (some ⟨g', o', none⟩) b.length c') ∧ w'.cell? ⟨g, o + i * 2, none⟩ = some (.int .i64 x.fr) ∧ w'.cell? ⟨g, o + i * 2 + 1, none⟩ = some (.int .i64 x.tt) ∧ w'.cell? ⟨g', o' + k * 2, none⟩ = some (.int .i64 y.fr) ∧ w'.cell? ⟨g', o' + k * 2 + 1, none⟩ = some (.int .i64 y.tt)) (by kernel_rfl) ?_ (fun hHeld => ?_)
          · exact HS.out _ ((Below.refl _ _).drew)
          refine heldIn_take (lets_wide _ _) (by kernel_rfl) (i := 0) (v := ?_) (by simp only [List.getElem?_toArray, List.getElem?_cons_zero]; rfl) (by kernel_rfl) (by kernel_rfl) (by kernel_rfl) (by exact fun _ _ _ h => h) (Or.inl ⟨by rfl, ?_⟩) (by assumption) ?_
          rotate_left
          focus (intro w' hSw; (try dsimp only at hSw); first | (go_simp; done) | (go_simp; with_reducible rfl))
          try simp only [Act.put, List.setIfInBounds_toArray, List.set_cons_zero, List.set_cons_succ]
          refine heldIn_take (lets_wide _ _) (by kernel_rfl) (i := 1) (v := ?_) (by simp only [List.getElem?_toArray, List.getElem?_cons_succ, List.getElem?_cons_zero]; rfl) (by kernel_rfl) (by kernel_rfl) (by kernel_rfl) (by exact fun _ _ _ h => h) (Or.inl ⟨by rfl, ?_⟩) (by assumption) ?_
          rotate_left
          focus (intro w' hSw; (try dsimp only at hSw); first | (go_simp; done) | (go_simp; with_reducible rfl))
          try simp only [Act.put, List.setIfInBounds_toArray, List.set_cons_zero, List.set_cons_succ]
          refine heldIn_take (lets_wide _ _) (by kernel_rfl) (i := 2) (v := ?_) (by simp only [List.getElem?_toArray, List.getElem?_cons_succ, List.getElem?_cons_zero]; rfl) (by kernel_rfl) (by kernel_rfl) (by kernel_rfl) (by exact fun _ _ _ h => h) (Or.inl ⟨by rfl, ?_⟩) (by assumption) ?_
          rotate_left
          focus (intro w' hSw; (try dsimp only at hSw); first | (go_simp; done) | (go_simp; with_reducible rfl))
          try simp only [Act.put, List.setIfInBounds_toArray, List.set_cons_zero, List.set_cons_succ]
          refine heldIn_take (lets_wide _ _) (by kernel_rfl) (i := 3) (v := ?_) (by simp only [List.getElem?_toArray, List.getElem?_cons_succ, List.getElem?_cons_zero]; rfl) (by kernel_rfl) (by kernel_rfl) (by kernel_rfl) (by exact fun _ _ _ h => h) (Or.inl ⟨by rfl, ?_⟩) (by assumption) ?_
          rotate_left
          focus (intro w' hSw; (try dsimp only at hSw); first | (go_simp; done) | (go_simp; with_reducible rfl))
          try simp only [Act.put, List.setIfInBounds_toArray, List.set_cons_zero, List.set_cons_succ]
          refine heldIn_take (lets_wide _ _) (by kernel_rfl) (i := 4) (v := ?_) (by simp only [List.getElem?_toArray, List.getElem?_cons_succ, List.getElem?_cons_zero]; rfl) (by kernel_rfl) (by kernel_rfl) (by kernel_rfl) (by exact fun _ _ _ h => h) (Or.inl ⟨by rfl, ?_⟩) (by assumption) ?_
          rotate_left
          focus (intro w' hSw; (try dsimp only at hSw); first | (go_simp; done) | (go_simp; with_reducible rfl))
          try simp only [Act.put, List.setIfInBounds_toArray, List.set_cons_zero, List.set_cons_succ]
          refine heldIn_take (lets_wide _ _) (by kernel_rfl) (i := 5) (v := ?_) (by simp only [List.getElem?_toArray, List.getElem?_cons_succ, List.getElem?_cons_zero]; rfl) (by kernel_rfl) (by kernel_rfl) (by kernel_rfl) (by exact fun _ _ _ h => h) (Or.inl ⟨by rfl, ?_⟩) (by assumption) ?_
          rotate_left
          focus (intro w' hSw; (try dsimp only at hSw); first | (go_simp; done) | (go_simp; with_reducible rfl))
          try simp only [Act.put, List.setIfInBounds_toArray, List.set_cons_zero, List.set_cons_succ]
          refine heldIn_take (lets_wide _ _) (by kernel_rfl) (i := 6) (v := ?_) (by simp only [List.getElem?_toArray, List.getElem?_cons_succ, List.getElem?_cons_zero]; rfl) (by kernel_rfl) (by kernel_rfl) (by kernel_rfl) (by exact fun _ _ _ h => h) (Or.inl ⟨by rfl, ?_⟩) (by assumption) ?_
          rotate_left
          focus (intro w' hSw; (try dsimp only at hSw); first | (go_simp; done) | (go_simp; with_reducible rfl))
          try simp only [Act.put, List.setIfInBounds_toArray, List.set_cons_zero, List.set_cons_succ]
          refine heldIn_take (lets_wide _ _) (by kernel_rfl) (i := 7) (v := ?_) (by simp only [List.getElem?_toArray, List.getElem?_cons_succ, List.getElem?_cons_zero]; rfl) (by kernel_rfl) (by kernel_rfl) (by kernel_rfl) (by exact fun _ _ _ h => h) (Or.inl ⟨by rfl, ?_⟩) (by assumption) ?_
          rotate_left
          focus (intro w' hSw; (try dsimp only at hSw); first | (go_simp; done) | (go_simp; with_reducible rfl))
          try simp only [Act.put, List.setIfInBounds_toArray, List.set_cons_zero, List.set_cons_succ]
          refine heldIn_take (lets_wide _ _) (by kernel_rfl) (i := 8) (v := ?_) (by simp only [List.getElem?_toArray, List.getElem?_cons_succ, List.getElem?_cons_zero]; rfl) (by kernel_rfl) (by kernel_rfl) (by kernel_rfl) (by exact fun _ _ _ h => h) (Or.inl ⟨by rfl, ?_⟩) (by assumption) ?_
          rotate_left
          focus (intro w' hSw; (try dsimp only at hSw); first | (go_simp; done) | (go_simp; with_reducible rfl))
          try simp only [Act.put, List.setIfInBounds_toArray, List.set_cons_zero, List.set_cons_succ]
          refine heldIn_take (lets_wide _ _) (by kernel_rfl) (i := 9) (v := ?_) (by simp only [List.getElem?_toArray, List.getElem?_cons_succ, List.getElem?_cons_zero]; rfl) (by kernel_rfl) (by kernel_rfl) (by kernel_rfl) (by exact fun _ _ _ h => h) (Or.inl ⟨by rfl, ?_⟩) (by assumption) ?_
          rotate_left
          focus (intro w' hSw; (try dsimp only at hSw); first | (go_simp; done) | (go_simp; with_reducible rfl))
          try simp only [Act.put, List.setIfInBounds_toArray, List.set_cons_zero, List.set_cons_succ]
          refine heldIn_take (lets_wide _ _) (by kernel_rfl) (i := 10) (v := ?_) (by simp only [List.getElem?_toArray, List.getElem?_cons_succ, List.getElem?_cons_zero]; rfl) (by kernel_rfl) (by kernel_rfl) (by kernel_rfl) (by exact fun _ _ _ h => h) (Or.inl ⟨by rfl, ?_⟩) (by assumption) ?_
          rotate_left
          focus (intro w' hSw; (try dsimp only at hSw); first | (go_simp; done) | (go_simp; with_reducible rfl))
          try simp only [Act.put, List.setIfInBounds_toArray, List.set_cons_zero, List.set_cons_succ]
          refine heldIn_take (lets_wide _ _) (by kernel_rfl) (i := 11) (v := ?_) (by simp only [List.getElem?_toArray, List.getElem?_cons_succ, List.getElem?_cons_zero]; rfl) (by kernel_rfl) (by kernel_rfl) (by kernel_rfl) (by exact fun _ _ _ h => h) (Or.inl ⟨by rfl, ?_⟩) (by assumption) ?_
          rotate_left
          focus (intro w' hSw; (try dsimp only at hSw); first | (go_simp; done) | (go_simp; with_reducible rfl))
          try simp only [Act.put, List.setIfInBounds_toArray, List.set_cons_zero, List.set_cons_succ]
          refine heldIn_take (lets_wide _ _) (by kernel_rfl) (i := 12) (v := ?_) (by simp only [List.getElem?_toArray, List.getElem?_cons_succ, List.getElem?_cons_zero]; rfl) (by kernel_rfl) (by kernel_rfl) (by kernel_rfl) (by exact fun _ _ _ h => h) (Or.inl ⟨by rfl, ?_⟩) (by assumption) ?_
          rotate_left
          focus (intro w' hSw; (try dsimp only at hSw); first | (go_simp; done) | (go_simp; with_reducible rfl))
          try simp only [Act.put, List.setIfInBounds_toArray, List.set_cons_zero, List.set_cons_succ]
          refine heldIn_take (lets_wide _ _) (by kernel_rfl) (i := 13) (v := ?_) (by simp only [List.getElem?_toArray, List.getElem?_cons_succ, List.getElem?_cons_zero]; rfl) (by kernel_rfl) (by kernel_rfl) (by kernel_rfl) (by exact fun _ _ _ h => h) (Or.inl ⟨by rfl, ?_⟩) (by assumption) ?_
          rotate_left
          focus (intro w' hSw; (try dsimp only at hSw); first | (go_simp; done) | (go_simp; with_reducible rfl))
          try simp only [Act.put, List.setIfInBounds_toArray, List.set_cons_zero, List.set_cons_succ]
          refine heldIn_take (lets_wide _ _) (by kernel_rfl) (i := 14) (v := ?_) (by simp only [List.getElem?_toArray, List.getElem?_cons_succ, List.getElem?_cons_zero]; rfl) (by kernel_rfl) (by kernel_rfl) (by kernel_rfl) (by exact fun _ _ _ h => h) (Or.inl ⟨by rfl, ?_⟩) (by assumption) ?_
          rotate_left
          focus (intro w' hSw; (try dsimp only at hSw); first | (go_simp; done) | (go_simp; with_reducible rfl))
          try simp only [Act.put, List.setIfInBounds_toArray, List.set_cons_zero, List.set_cons_succ]
          refine heldIn_take (lets_wide _ _) (by kernel_rfl) (i := 15) (v := ?_) (by simp only [List.getElem?_toArray, List.getElem?_cons_succ, List.getElem?_cons_zero]; rfl) (by kernel_rfl) (by kernel_rfl) (by kernel_rfl) (by exact fun _ _ _ h => h) (Or.inl ⟨by rfl, ?_⟩) (by assumption) ?_
          rotate_left
          focus (intro w' hSw; (try dsimp only at hSw); first | (go_simp; done) | (go_simp; with_reducible rfl))
          try simp only [Act.put, List.setIfInBounds_toArray, List.set_cons_zero, List.set_cons_succ]
          refine heldIn_take (lets_wide _ _) (by kernel_rfl) (i := 16) (v := ?_) (by simp only [List.getElem?_toArray, List.getElem?_cons_succ, List.getElem?_cons_zero]; rfl) (by kernel_rfl) (by kernel_rfl) (by kernel_rfl) (by exact fun _ _ _ h => h) (Or.inl ⟨by rfl, ?_⟩) (by assumption) ?_
          rotate_left
          focus (intro w' hSw; (try dsimp only at hSw); first | (go_simp; done) | (go_simp; with_reducible rfl))
          try simp only [Act.put, List.setIfInBounds_toArray, List.set_cons_zero, List.set_cons_succ]
          refine heldIn_take (lets_wide _ _) (by kernel_rfl) (i := 17) (v := ?_) (by simp only [List.getElem?_toArray, List.getElem?_cons_succ, List.getElem?_cons_zero]; rfl) (by kernel_rfl) (by kernel_rfl) (by kernel_rfl) (by exact fun _ _ _ h => h) (Or.inl ⟨by rfl, ?_⟩) (by assumption) ?_
          rotate_left
          focus (intro w' hSw; (try dsimp only at hSw); first | (go_simp; done) | (go_simp; with_reducible rfl))
          try simp only [Act.put, List.setIfInBounds_toArray, List.set_cons_zero, List.set_cons_succ]
          refine heldIn_take (lets_wide _ _) (by kernel_rfl) (i := 18) (v := ?_) (by simp only [List.getElem?_toArray, List.getElem?_cons_succ, List.getElem?_cons_zero]; rfl) (by kernel_rfl) (by kernel_rfl) (by kernel_rfl) (by exact fun _ _ _ h => h) (Or.inl ⟨by rfl, ?_⟩) (by assumption) ?_
          rotate_left
          focus (intro w' hSw; (try dsimp only at hSw); first | (go_simp; done) | (go_simp; with_reducible rfl))
          try simp only [Act.put, List.setIfInBounds_toArray, List.set_cons_zero, List.set_cons_succ]
          refine heldIn_take (lets_wide _ _) (by kernel_rfl) (i := 19) (v := ?_) (by simp only [List.getElem?_toArray, List.getElem?_cons_succ, List.getElem?_cons_zero]; rfl) (by kernel_rfl) (by kernel_rfl) (by kernel_rfl) (by exact fun _ _ _ h => h) (Or.inl ⟨by rfl, ?_⟩) (by assumption) ?_
          rotate_left
          focus (intro w' hSw; (try dsimp only at hSw); first | (go_simp; done) | (go_simp; with_reducible rfl))
          try simp only [Act.put, List.setIfInBounds_toArray, List.set_cons_zero, List.set_cons_succ]
          refine heldIn_take (lets_wide _ _) (by kernel_rfl) (i := 20) (v := ?_) (by simp only [List.getElem?_toArray, List.getElem?_cons_succ, List.getElem?_cons_zero]; rfl) (by kernel_rfl) (by kernel_rfl) (by kernel_rfl) (by exact fun _ _ _ h => h) (Or.inl ⟨by rfl, ?_⟩) (by assumption) ?_
          rotate_left
          focus (intro w' hSw; (try dsimp only at hSw); first | (go_simp; done) | (go_simp; with_reducible rfl))
          try simp only [Act.put, List.setIfInBounds_toArray, List.set_cons_zero, List.set_cons_succ]
          refine heldIn_take (lets_wide _ _) (by kernel_rfl) (i := 21) (v := ?_) (by simp only [List.getElem?_toArray, List.getElem?_cons_succ, List.getElem?_cons_zero]; rfl) (by kernel_rfl) (by kernel_rfl) (by kernel_rfl) (by exact fun _ _ _ h => h) (Or.inl ⟨by rfl, ?_⟩) (by assumption) ?_
          rotate_left
          focus (intro w' hSw; (try dsimp only at hSw); first | (go_simp; done) | (go_simp; with_reducible rfl))
          try simp only [Act.put, List.setIfInBounds_toArray, List.set_cons_zero, List.set_cons_succ]
          refine heldIn_take (lets_wide _ _) (by kernel_rfl) (i := 22) (v := ?_) (by simp only [List.getElem?_toArray, List.getElem?_cons_succ, List.getElem?_cons_zero]; rfl) (by kernel_rfl) (by kernel_rfl) (by kernel_rfl) (by exact fun _ _ _ h => h) (Or.inl ⟨by rfl, ?_⟩) (by assumption) ?_
          rotate_left
          focus (intro w' hSw; (try dsimp only at hSw); first | (go_simp; done) | (go_simp; with_reducible rfl))
          try simp only [Act.put, List.setIfInBounds_toArray, List.set_cons_zero, List.set_cons_succ]
          refine heldIn_one (i := 23) (by kernel_rfl) (by simp only [List.getElem?_toArray, List.getElem?_cons_succ, List.getElem?_cons_zero]; rfl) (by rfl) (fun K hK => ?_)
          first | gi_big_move | gi_big_op
          refine hK.out _ _ ?_ (fun hHeld => ?_)
          · exact HS.out _ (by repeat (first | exact Below.refl _ _ | refine Below.drew ?_ | refine Below.setCell ?_ (by simp) _ | refine Below.alloc ?_ (by simp) _))
          clear hK K
          try simp only [Act.put, List.setIfInBounds_toArray, List.set_cons_zero, List.set_cons_succ]
          refine heldIn_one (i := 24) (by kernel_rfl) (by simp only [List.getElem?_toArray, List.getElem?_cons_succ, List.getElem?_cons_zero]; rfl) (by rfl) (fun K hK => ?_)
          first | gi_big_move | gi_big_op
          refine hK.out _ _ ?_ (fun hHeld => ?_)
          · exact HS.out _ (by repeat (first | exact Below.refl _ _ | refine Below.drew ?_ | refine Below.setCell ?_ (by simp) _ | refine Below.alloc ?_ (by simp) _))
          clear hK K
          try simp only [Act.put, List.setIfInBounds_toArray, List.set_cons_zero, List.set_cons_succ]
          refine heldIn_done (by kernel_rfl) ?_ _
          dsimp only [onlyN]
          rw [EMM.out, Emm.out]
          refine hKc _ _ (Met.intro (hJc _ _ ?_))
          repeat apply Exists.intro
          refine ⟨?rel, rfl⟩
          case rel =>
            exact ⟨_, rfl, (Blk.new wr #[.int .i64 M, .int .i64 m] 36).cell 0, (Blk.new wr #[.int .i64 M, .int .i64 m] 36).cell 1, Lib.hid (hbw.out.grown (grown_alloc_drew _ _) hsz (fun k e => by cases e)), Lib.hid (HJ.out _ _ _ none hJs.out (grown_alloc_drew _ _) (fun r e => by cases e))⟩
        case rest =>
          obtain ⟨B, rfl, c0, c1, hB2, J2⟩ := hcut
          clear a0 a1 b0 b1 xa xb z1 z2 z3 z4 n1 n2 n3 n4 EMM Emm
          gi_upto_region 3 with fail
          gi_cut [50] from 7 (fun s wd => ∃ b : Bool, s = .bool b ∧ Hid (b = true → ∃ pre, Jx pre wd) ∧ Hid (b = false → J (acc ++ meet x y) wd ∧ Below w.heap.size w wd))
          case first =>
            by_cases hmeet : M ≤ m
            · rw [if_pos hmeet] at EM
              obtain ⟨fn, tmps, assign, body, hy, hR⟩ := HY.out _ ⟨M, m⟩ wc J2.out (by omega)
              have HR := Lib.hid hR
              clear hR
              dsimp only at hy
              gi_wp2
              refine HR.out.mono ?_
              rintro e W3 (⟨rfl, hJ3, hk3⟩ | ⟨rfl, hJx3⟩)
              · have HB3 := Lib.hid (hB2.out.trans hk3.1)
                have H3 := Lib.hid hJ3
                clear hJ3 hk3 hy c0 c1
                gi_wp2
                gi_meet
                case rel => exact ⟨false, rfl, Lib.hid (fun h => by cases h), Lib.hid (fun _ => ⟨by rw [EM.out]; exact H3.out, HB3.out⟩)⟩
              · have H3 := Lib.hid hJx3
                clear hJx3 hy c0 c1
                gi_wp2
                gi_meet
                case rel => exact ⟨true, rfl, Lib.hid (fun _ => ⟨_, H3.out⟩), Lib.hid (fun h => by cases h)⟩
            · rw [if_neg hmeet] at EM
              gi_wp2
              refine ⟨fun _ h => (by cases h), ?_⟩
              gi_wp2
              gi_meet
              case rel => exact ⟨false, rfl, Lib.hid (fun h => by cases h), Lib.hid (fun _ => ⟨by rw [EM.out, List.append_nil]; exact J2.out, hB2.out⟩)⟩
          case rest =>
            rename_i wd
            obtain ⟨b, rfl, hbt, hbf⟩ := hcut
            clear c0 c1
            cases b with
            | true =>
              obtain ⟨pre, hpre⟩ := hbt.out rfl
              have H3 := Lib.hid hpre
              clear hpre hbt hbf
              gi_wp2
              refine bodyPost_ret (results_none rfl _ _ _) rfl ?_
              exact ⟨⟨_, rfl⟩, .inr ⟨_, trivial, H3.out⟩⟩
            | false =>
              obtain ⟨hj, hbb⟩ := hbf.out rfl
              have H3 := Lib.hid hj
              have HB3 := Lib.hid hbb
              clear hj hbb hbt hbf
              have xa3 := (HB3.out.cell (p := ⟨Ba, 0, none⟩) hBa).trans HCA.out
              have xb3 := (HB3.out.cell (p := ⟨Bb, 0, none⟩) hBb).trans HCB.out
              have a3 := (HB3.out.cell (p := ⟨g, o + i * 2 + 1, none⟩) hg).trans P1.out
              have b3 := (HB3.out.cell (p := ⟨g', o' + k * 2 + 1, none⟩) hg').trans Q1.out
              have hs3 := HB3.out.size
              have hml := meet_len x y
              have J3 := Lib.hid (HJ.out _ _ _ none H3.out (grown_drew _) (fun r e => by cases e))
              have B3 := Lib.hid (HB3.out.drew)
              by_cases hlt : x.tt < y.tt
              · have EL := Lib.hid (commF_left hE.out HX.out HY'.out hlt)
                gi_upto_region 4 with fail
                refine wpIn_region_still (lets_wide _ _) (by kernel_rfl) (by kernel_rfl) (by kernel_rfl) ?_
                refine hidStill_step (fun K hK => ?_)
                go_simp
                refine hK _ ?_
                clear hK K
                refine hidStill_step (fun K hK => ?_)
                go_simp
                refine hK _ ?_
                clear hK K
                refine hidStill_step (fun K hK => ?_)
                go_simp
                refine hK _ ?_
                clear hK K
                refine hidStill_step (fun K hK => ?_)
                go_simp
                refine hK _ ?_
                clear hK K
                refine hidStill_step (fun K hK => ?_)
                go_simp
                refine hK _ ?_
                clear hK K
                refine hidStill_step (fun K hK => ?_)
                go_simp
                refine hK _ ?_
                clear hK K
                refine hidStill_step (fun K hK => ?_)
                go_simp
                refine hK _ ?_
                clear hK K
                refine hidStill_step (fun K hK => ?_)
                go_simp
                refine hK _ ?_
                clear hK K
                refine hidStill_step (fun K hK => ?_)
                go_simp
                refine hK _ ?_
                clear hK K
                refine hidStill_step (fun K hK => ?_)
                go_simp
                refine hK _ ?_
                clear hK K
                refine hidStill_step (fun K hK => ?_)
                go_simp
                refine hK _ ?_
                clear hK K
                refine hidStill_nil ?_
                gi_wp2
                go_roundw
                case rel => exact ⟨i + 1, k, _, by omega, hk, by go_num, rfl, EL, by simp; omega, J3, B3, hs3⟩
                case measure => simp [intOf]; omega
              · have EL := Lib.hid (commF_right hE.out HX.out HY'.out hlt)
                gi_upto_region 4 with fail
                refine wpIn_region_still (lets_wide _ _) (by kernel_rfl) (by kernel_rfl) (by kernel_rfl) ?_
                refine hidStill_step (fun K hK => ?_)
                go_simp
                refine hK _ ?_
                clear hK K
                refine hidStill_step (fun K hK => ?_)
                go_simp
                refine hK _ ?_
                clear hK K
                refine hidStill_step (fun K hK => ?_)
                go_simp
                refine hK _ ?_
                clear hK K
                refine hidStill_step (fun K hK => ?_)
                go_simp
                refine hK _ ?_
                clear hK K
                refine hidStill_step (fun K hK => ?_)
                go_simp
                refine hK _ ?_
                clear hK K
                refine hidStill_step (fun K hK => ?_)
                go_simp
                refine hK _ ?_
                clear hK K
                refine hidStill_step (fun K hK => ?_)
                go_simp
                refine hK _ ?_
                clear hK K
                refine hidStill_step (fun K hK => ?_)
                go_simp
                refine hK _ ?_
                clear hK K
                refine hidStill_step (fun K hK => ?_)
                go_simp
                refine hK _ ?_
                clear hK K
                refine hidStill_step (fun K hK => ?_)
                go_simp
                refine hK _ ?_
                clear hK K
                refine hidStill_step (fun K hK => ?_)
                go_simp
                refine hK _ ?_
                clear hK K
                refine hidStill_nil ?_
                gi_wp2
                go_roundw
                case rel => exact ⟨i, k + 1, _, hi, by omega, rfl, by go_num, EL, by simp; omega, J3, B3, hs3⟩
                case measure => simp [intOf]; omega
end Go.Proofs.Ytmjdlkninibocaa
