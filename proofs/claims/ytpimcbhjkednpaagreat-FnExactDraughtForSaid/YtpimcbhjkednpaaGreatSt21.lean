
/- What ExactSureStarts and ExactOpenStarts and ExactIsSure and ExactIsOpenStart and ExactDraughtFor rests on, part 21: contracts and mathematics. -/
import Derived.Test.YtpimcbhjkednpaaGreatSt20
import Derived.Test.YtpimcbhjkednpaaGreatSt19
namespace Go.Proofs.YtpimcbhjkednpaaGreat
open Go.RowKit
set_option maxRecDepth 100000
/-- The boxes of DraughtFor's variables lie as they were laid, the ship's with whatever draught; nothing older has changed. -/
def DrInv (w : World) (CF CC : Array Value) (i t : Int) (s : ShipD) (W : World) : Prop :=
  ∃ x : Int, Blk W w.heap.size CF 44 ∧ Blk W (w.heap.size + 1) CC 49 ∧ Blk W (w.heap.size + 2) #[.int .i64 i] 3 ∧ Blk W (w.heap.size + 3) #[.string s.name, .int .i64 s.length, .int .i64 x, .int .i64 s.line, .int .i64 s.tugs, .bool s.slow] 51 ∧ Blk W (w.heap.size + 4) #[.int .i64 t] 3 ∧ Below w.heap.size w W
theorem dr_wf' {s : ShipD} {y : Int} (h : s.wf) (y0 : 0 ≤ y) (y1 : y ≤ 2000) : (withDr s y).wf := by
  obtain ⟨h1, h2, -, h4, h5⟩ := h
  refine ⟨h1, h2, ?_, h4, h5⟩
  show (Lit.int .i64 y).wf = true
  simp [Lit.wf, IntKind.min, IntKind.max, IntKind.signed, IntKind.bits]
  omega
set_option maxHeartbeats 4000000 in
theorem drAsk (Af0 : Option Addr) (cf0 : Nat) (Af1 : Option Addr) (cf1 : Nat) (f : ForecastD) (Ad0 : Option Addr) (cd0 : Nat) (Ad1 : Option Addr) (cd1 : Nat) (d : ChartD) (i : Int) (s : ShipD) (t : Int) (w : World) (rf : RdForecast w (.slice Af0 f.parts.length cf0) (.slice Af1 f.surges.length cf1) f) (rd : RdChart w (.slice Ad0 d.points.length cd0) (.slice Ad1 d.segs.length cd1) d) (fd : ∀ x ∈ d.points, PointD.wf x) (fs : s.wf) (m : Nat) (hm : m < 1901) (W : World) (hI : DrInv w #[.int .i64 f.mean, .slice Af0 f.parts.length cf0, .slice Af1 f.surges.length cf1] #[.slice Ad0 d.points.length cd0, .slice Ad1 d.segs.length cd1] i t s W) :
    Calls Tryz.prog 62 #[.int .i64 (m : Int), (.pointer (some ⟨w.heap.size + 3, 0, none⟩)), (.pointer (some ⟨w.heap.size, 0, none⟩)), (.pointer (some ⟨w.heap.size + 1, 0, none⟩)), (.pointer (some ⟨w.heap.size + 2, 0, none⟩)), (.pointer (some ⟨w.heap.size + 4, 0, none⟩))] W fun e w' => e = .returned (.bool (notSure f d i s t m)) ∧ DrInv w #[.int .i64 f.mean, .slice Af0 f.parts.length cf0, .slice Af1 f.surges.length cf1] #[.slice Ad0 d.points.length cd0, .slice Ad1 d.segs.length cd1] i t s w' := by
  have Rf := Lib.hid rf
  have Rd := Lib.hid rd
  have Nd := Lib.hid fd
  have Ns := Lib.hid fs
  clear rf rd fd fs
  obtain ⟨x, hF, hC, hi, hS, ht, hB⟩ := hI
  obtain ⟨y, hy⟩ : ∃ y, 100 + (m : Int) = y := ⟨_, rfl⟩
  have y0 : 100 ≤ y := by omega
  have y1 : y ≤ 2000 := by omega
  have wy : IntKind.i64.wrap (100 + (m : Int)) = y := by rw [IntKind.wrap_i64]; omega
  obtain ⟨su, hsu⟩ : ∃ b, startB false f d i (withDr s y) t = b := ⟨_, rfl⟩
  have HSU := Lib.hid hsu
  have E : Hid (notSure f d i s t m = !su) := Lib.hid (by unfold notSure; rw [hy, hsu])
  have BX := Lib.hid (Below.setCell hB (p := ⟨w.heap.size + 3, 2, none⟩) (by show w.heap.size ≤ w.heap.size + 3; omega) (.int .i64 y))
  have KF := Lib.hid (hF.other (b' := w.heap.size + 3) (by omega) 2 (.int .i64 y))
  have KC := Lib.hid (hC.other (b' := w.heap.size + 3) (by omega) 2 (.int .i64 y))
  have Ki := Lib.hid (hi.other (b' := w.heap.size + 3) (by omega) 2 (.int .i64 y))
  have Kt := Lib.hid (ht.other (b' := w.heap.size + 3) (by omega) 2 (.int .i64 y))
  have KS : Hid (Blk (W.setCell ⟨w.heap.size + 3, 2, none⟩ (.int .i64 y)) (w.heap.size + 3) #[.string s.name, .int .i64 s.length, .int .i64 y, .int .i64 s.line, .int .i64 s.tugs, .bool s.slow] 51) := Lib.hid (hS.set 2 (.int .i64 y))
  have s0 : W.cell? ⟨w.heap.size + 3, 0, none⟩ = some (.string s.name) := hS.cell 0
  have g0 : W.frozen? ⟨w.heap.size + 3, 0, none⟩ = false := hS.free 0
  have s1 : W.cell? ⟨w.heap.size + 3, 1, none⟩ = some (.int .i64 s.length) := hS.cell 1
  have g1 : W.frozen? ⟨w.heap.size + 3, 1, none⟩ = false := hS.free 1
  have s2 : W.cell? ⟨w.heap.size + 3, 2, none⟩ = some (.int .i64 x) := hS.cell 2
  have g2 : W.frozen? ⟨w.heap.size + 3, 2, none⟩ = false := hS.free 2
  have s3 : W.cell? ⟨w.heap.size + 3, 3, none⟩ = some (.int .i64 s.line) := hS.cell 3
  have g3 : W.frozen? ⟨w.heap.size + 3, 3, none⟩ = false := hS.free 3
  have s4 : W.cell? ⟨w.heap.size + 3, 4, none⟩ = some (.int .i64 s.tugs) := hS.cell 4
  have g4 : W.frozen? ⟨w.heap.size + 3, 4, none⟩ = false := hS.free 4
  have s5 : W.cell? ⟨w.heap.size + 3, 5, none⟩ = some (.bool s.slow) := hS.cell 5
  have g5 : W.frozen? ⟨w.heap.size + 3, 5, none⟩ = false := hS.free 5
  have f0 : W.cell? ⟨w.heap.size, 0, none⟩ = some (.int .i64 f.mean) := hF.cell 0
  have f1 : W.cell? ⟨w.heap.size, 1, none⟩ = some (.slice Af0 f.parts.length cf0) := hF.cell 1
  have f2 : W.cell? ⟨w.heap.size, 2, none⟩ = some (.slice Af1 f.surges.length cf1) := hF.cell 2
  have p0 : W.cell? ⟨w.heap.size + 1, 0, none⟩ = some (.slice Ad0 d.points.length cd0) := hC.cell 0
  have p1 : W.cell? ⟨w.heap.size + 1, 1, none⟩ = some (.slice Ad1 d.segs.length cd1) := hC.cell 1
  have qi : W.cell? ⟨w.heap.size + 2, 0, none⟩ = some (.int .i64 i) := hi.cell 0
  have qt : W.cell? ⟨w.heap.size + 4, 0, none⟩ = some (.int .i64 t) := ht.cell 0
  clear hF hC hi hS ht hB hy hsu
  go_enter Tryz.func62, Tryz.ntmps62
  go_wp2_with fail
  clear s0 s1 s2 s3 s4 s5 g0 g1 g2 g3 g4 g5 f0 f1 f2 p0 p1 qi qt
  refine (implIsSure _ _ f _ _ d i (withDr s y) t _ (Rf.out.below BX.out) (Rd.out.below BX.out) Nd.out (dr_wf' Ns.out (by omega) y1)).mono ?_
  rw [HSU.out]
  rintro e wv ⟨rfl, hbv⟩
  have BV := Lib.hid (BX.out.trans (hbv.mono BX.out.size))
  have KF2 := Lib.hid (KF.out.below hbv)
  have KC2 := Lib.hid (KC.out.below hbv)
  have Ki2 := Lib.hid (Ki.out.below hbv)
  have KS2 := Lib.hid (KS.out.below hbv)
  have Kt2 := Lib.hid (Kt.out.below hbv)
  clear hbv
  go_wp2
  go_ret
  exact ⟨ret_bool E.out.symm, y, KF2.out, KC2.out, Ki2.out, KS2.out, Kt2.out, BV.out⟩
set_option maxHeartbeats 4000000 in
theorem drSearch (Af0 : Option Addr) (cf0 : Nat) (Af1 : Option Addr) (cf1 : Nat) (f : ForecastD) (Ad0 : Option Addr) (cd0 : Nat) (Ad1 : Option Addr) (cd1 : Nat) (d : ChartD) (i : Int) (s : ShipD) (t : Int) (w : World) (rf : RdForecast w (.slice Af0 f.parts.length cf0) (.slice Af1 f.surges.length cf1) f) (rd : RdChart w (.slice Ad0 d.points.length cd0) (.slice Ad1 d.segs.length cd1) d) (fd : ∀ x ∈ d.points, PointD.wf x) (fs : s.wf) (hs : shipB s = true) (W : World) (hI : DrInv w #[.int .i64 f.mean, .slice Af0 f.parts.length cf0, .slice Af1 f.surges.length cf1] #[.slice Ad0 d.points.length cd0, .slice Ad1 d.segs.length cd1] i t s W) :
    Calls Tryz.prog 61 #[.int .i64 1901, .func (.func 62) #[] #[(.pointer (some ⟨w.heap.size + 3, 0, none⟩)), (.pointer (some ⟨w.heap.size, 0, none⟩)), (.pointer (some ⟨w.heap.size + 1, 0, none⟩)), (.pointer (some ⟨w.heap.size + 2, 0, none⟩)), (.pointer (some ⟨w.heap.size + 4, 0, none⟩))]] W fun e w' => ∃ r : Nat, e = .returned (.int .i64 (r : Int)) ∧ r ≤ 1901 ∧ Hid ((∀ m, m < r → notSure f d i s t m = false) ∧ (∀ m, r ≤ m → m < 1901 → notSure f d i s t m = true)) ∧ Hid (DrInv w #[.int .i64 f.mean, .slice Af0 f.parts.length cf0, .slice Af1 f.surges.length cf1] #[.slice Ad0 d.points.length cd0, .slice Ad1 d.segs.length cd1] i t s w') := by
  have ASK := Lib.hid (drAsk Af0 cf0 Af1 cf1 f Ad0 cd0 Ad1 cd1 d i s t w rf rd fd fs)
  have M := Lib.hid (notSure_mono (f := f) (d := d) (i := i) (s := s) (t := t) hs)
  have HI := Lib.hid hI
  clear rf rd fd fs hs hI
  go_enter Tryz.func61, Tryz.ntmps61
  go_wp2
  go_loopw [5, 6] (fun a b wr => ∃ lo hi : Nat, a = .int .i64 (lo : Int) ∧ b = .int .i64 (hi : Int) ∧ lo ≤ hi ∧ hi ≤ 1901 ∧ Hid ((∀ m, m < lo → notSure f d i s t m = false) ∧ (∀ m, hi ≤ m → m < 1901 → notSure f d i s t m = true)) ∧ Hid (DrInv w #[.int .i64 f.mean, .slice Af0 f.parts.length cf0, .slice Af1 f.surges.length cf1] #[.slice Ad0 d.points.length cd0, .slice Ad1 d.segs.length cd1] i t s wr)) (fun a b _ => (intOf b - intOf a).toNat)
  case atStart => exact ⟨0, 1901, rfl, rfl, by omega, by omega, Lib.hid ⟨fun m h => absurd h (Nat.not_lt_zero _), fun m h1 h2 => by omega⟩, HI⟩
  case round =>
    clear HI
    obtain ⟨lo, hi, rfl, rfl, hlh, hin, hJ, hI⟩ := hrel
    by_cases hlt : lo < hi
    · obtain ⟨mi, hmi⟩ : ∃ mi, (lo + hi) / 2 = mi := ⟨_, rfl⟩
      have m0 : lo ≤ mi := by omega
      have m1 : mi < hi := by omega
      have hmid : ((lo : Int) + (hi : Int)) / 2 = (mi : Int) := by omega
      obtain ⟨b, hb⟩ : ∃ b, notSure f d i s t mi = b := ⟨_, rfl⟩
      have HB := Lib.hid hb
      have HM := Lib.hid hmi
      clear hmi hb
      go_wp2_with fail
      refine (ASK.out mi (by omega) _ hI.out).mono ?_
      rw [HB.out]
      rintro e w5 ⟨rfl, hI5⟩
      have I5 := Lib.hid hI5
      clear hI5
      cases b with
      | true =>
        have J2 : Hid ((∀ m, m < lo → notSure f d i s t m = false) ∧ (∀ m, mi ≤ m → m < 1901 → notSure f d i s t m = true)) := Lib.hid ⟨hJ.out.1, fun m h1 h2 => M.out mi m h1 h2 HB.out⟩
        go_wp2
        go_roundw
        case rel => exact ⟨lo, mi, rfl, by first | rfl | exact congrArg (Value.int .i64) hmid, m0, by omega, J2, I5⟩
        case measure => simp [intOf]; omega
      | false =>
        have J2 : Hid ((∀ m, m < mi + 1 → notSure f d i s t m = false) ∧ (∀ m, hi ≤ m → m < 1901 → notSure f d i s t m = true)) := Lib.hid ⟨fun m h => (by
          cases h3 : notSure f d i s t m with
          | false => rfl
          | true => exact absurd ((M.out m mi (by omega) (by omega) h3).symm.trans HB.out) (by simp)), hJ.out.2⟩
        go_wp2
        go_roundw
        case rel => exact ⟨mi + 1, hi, by first | rfl | go_num, rfl, by omega, hin, J2, I5⟩
        case measure => simp [intOf]; omega
    · obtain rfl : hi = lo := by omega
      go_wp2
      go_ret
      exact ⟨hi, rfl, hin, hJ, hI⟩
set_option maxHeartbeats 4000000 in
theorem implDraughtFor (yf0 yf1 : Value) (f : ForecastD) (yd0 yd1 : Value) (d : ChartD) (i : Int) (s : ShipD) (t : Int) (w : World) (rf : RdForecast w yf0 yf1 f) (rd : RdChart w yd0 yd1 d) (fd : ∀ x ∈ d.points, PointD.wf x) (fs : s.wf) :
    Calls Tryz.prog 30 #[.agg #[.int .i64 f.mean, yf0, yf1], .agg #[yd0, yd1], .int .i64 i, s.val, .int .i64 t] w (fun e w' => e = .returned (.int .i64 (draughtI f d i s t)) ∧ Below w.heap.size w w') := by
  have Rf := Lib.hid rf
  obtain ⟨rf0, rf1⟩ := rf
  obtain ⟨Af0, cf0, rfl⟩ := SlOf.form rf0
  obtain ⟨Af1, cf1, rfl⟩ := SlOf.form rf1
  clear rf0 rf1
  have Rd := Lib.hid rd
  obtain ⟨rd0, rd1⟩ := rd
  obtain ⟨Ad0, cd0, rfl⟩ := SlOf.form rd0
  obtain ⟨Ad1, cd1, rfl⟩ := SlOf.form rd1
  have Nd := Lib.hid fd
  clear fd
  clear rd0 rd1
  have Ns := Lib.hid fs
  clear fs
  obtain ⟨W0, hW0⟩ : ∃ W0, W0 = (((((w.alloc (.cells #[.int .i64 f.mean, .slice Af0 f.parts.length cf0, .slice Af1 f.surges.length cf1] 44)).alloc (.cells #[.slice Ad0 d.points.length cd0, .slice Ad1 d.segs.length cd1] 49)).alloc (.cells #[.int .i64 i] 3)).alloc (.cells #[.string s.name, .int .i64 s.length, .int .i64 s.draught, .int .i64 s.line, .int .i64 s.tugs, .bool s.slow] 51)).alloc (.cells #[.int .i64 t] 3)) := ⟨_, rfl⟩
  have B := Lib.hid (((((Joins.below_alloc1 w (.cells #[.int .i64 f.mean, .slice Af0 f.parts.length cf0, .slice Af1 f.surges.length cf1] 44)).trans ((Joins.below_alloc1 (w.alloc (.cells #[.int .i64 f.mean, .slice Af0 f.parts.length cf0, .slice Af1 f.surges.length cf1] 44)) (.cells #[.slice Ad0 d.points.length cd0, .slice Ad1 d.segs.length cd1] 49)).mono (by simp; try omega))).trans ((Joins.below_alloc1 ((w.alloc (.cells #[.int .i64 f.mean, .slice Af0 f.parts.length cf0, .slice Af1 f.surges.length cf1] 44)).alloc (.cells #[.slice Ad0 d.points.length cd0, .slice Ad1 d.segs.length cd1] 49)) (.cells #[.int .i64 i] 3)).mono (by simp; try omega))).trans ((Joins.below_alloc1 (((w.alloc (.cells #[.int .i64 f.mean, .slice Af0 f.parts.length cf0, .slice Af1 f.surges.length cf1] 44)).alloc (.cells #[.slice Ad0 d.points.length cd0, .slice Ad1 d.segs.length cd1] 49)).alloc (.cells #[.int .i64 i] 3)) (.cells #[.string s.name, .int .i64 s.length, .int .i64 s.draught, .int .i64 s.line, .int .i64 s.tugs, .bool s.slow] 51)).mono (by simp; try omega))).trans ((Joins.below_alloc1 ((((w.alloc (.cells #[.int .i64 f.mean, .slice Af0 f.parts.length cf0, .slice Af1 f.surges.length cf1] 44)).alloc (.cells #[.slice Ad0 d.points.length cd0, .slice Ad1 d.segs.length cd1] 49)).alloc (.cells #[.int .i64 i] 3)).alloc (.cells #[.string s.name, .int .i64 s.length, .int .i64 s.draught, .int .i64 s.line, .int .i64 s.tugs, .bool s.slow] 51)) (.cells #[.int .i64 t] 3)).mono (by simp; try omega)))
  have Kf := Lib.hid (((((Blk.new w #[.int .i64 f.mean, .slice Af0 f.parts.length cf0, .slice Af1 f.surges.length cf1] 44).below (Joins.below_alloc1 _ (.cells #[.slice Ad0 d.points.length cd0, .slice Ad1 d.segs.length cd1] 49))).below (Joins.below_alloc1 _ (.cells #[.int .i64 i] 3))).below (Joins.below_alloc1 _ (.cells #[.string s.name, .int .i64 s.length, .int .i64 s.draught, .int .i64 s.line, .int .i64 s.tugs, .bool s.slow] 51))).below (Joins.below_alloc1 _ (.cells #[.int .i64 t] 3)))
  have Kd := Lib.hid ((((Blk.new (w.alloc (.cells #[.int .i64 f.mean, .slice Af0 f.parts.length cf0, .slice Af1 f.surges.length cf1] 44)) #[.slice Ad0 d.points.length cd0, .slice Ad1 d.segs.length cd1] 49).below (Joins.below_alloc1 _ (.cells #[.int .i64 i] 3))).below (Joins.below_alloc1 _ (.cells #[.string s.name, .int .i64 s.length, .int .i64 s.draught, .int .i64 s.line, .int .i64 s.tugs, .bool s.slow] 51))).below (Joins.below_alloc1 _ (.cells #[.int .i64 t] 3)))
  rw [World.size_alloc] at Kd
  have Ki := Lib.hid (((Blk.new ((w.alloc (.cells #[.int .i64 f.mean, .slice Af0 f.parts.length cf0, .slice Af1 f.surges.length cf1] 44)).alloc (.cells #[.slice Ad0 d.points.length cd0, .slice Ad1 d.segs.length cd1] 49)) #[.int .i64 i] 3).below (Joins.below_alloc1 _ (.cells #[.string s.name, .int .i64 s.length, .int .i64 s.draught, .int .i64 s.line, .int .i64 s.tugs, .bool s.slow] 51))).below (Joins.below_alloc1 _ (.cells #[.int .i64 t] 3)))
  rw [World.size_alloc, World.size_alloc] at Ki
  have Ks := Lib.hid ((Blk.new (((w.alloc (.cells #[.int .i64 f.mean, .slice Af0 f.parts.length cf0, .slice Af1 f.surges.length cf1] 44)).alloc (.cells #[.slice Ad0 d.points.length cd0, .slice Ad1 d.segs.length cd1] 49)).alloc (.cells #[.int .i64 i] 3)) #[.string s.name, .int .i64 s.length, .int .i64 s.draught, .int .i64 s.line, .int .i64 s.tugs, .bool s.slow] 51).below (Joins.below_alloc1 _ (.cells #[.int .i64 t] 3)))
  rw [World.size_alloc, World.size_alloc, World.size_alloc] at Ks
  have Kt := Lib.hid (Blk.new ((((w.alloc (.cells #[.int .i64 f.mean, .slice Af0 f.parts.length cf0, .slice Af1 f.surges.length cf1] 44)).alloc (.cells #[.slice Ad0 d.points.length cd0, .slice Ad1 d.segs.length cd1] 49)).alloc (.cells #[.int .i64 i] 3)).alloc (.cells #[.string s.name, .int .i64 s.length, .int .i64 s.draught, .int .i64 s.line, .int .i64 s.tugs, .bool s.slow] 51)) #[.int .i64 t] 3)
  rw [World.size_alloc, World.size_alloc, World.size_alloc, World.size_alloc] at Kt
  have HW0 := Lib.hid hW0
  rw [← hW0] at B Kf Kd Ki Ks Kt
  clear hW0
  obtain ⟨ts, hts⟩ : ∃ b, shipB s = b := ⟨_, rfl⟩
  have HTS := Lib.hid hts
  cases ts with
  | false =>
    have E := Lib.hid (draught_bad (f := f) (t := t) (show _ ∨ sailB d i s = false from .inr (by unfold sailB; rw [hts]; simp)))
    clear hts
    go_enter Tryz.func30, Tryz.ntmps30
    have vf0 : W0.cell? ⟨w.heap.size, 0, none⟩ = some (.int .i64 f.mean) := Kf.out.cell 0
    have vf1 : W0.cell? ⟨w.heap.size, 1, none⟩ = some (.slice Af0 f.parts.length cf0) := Kf.out.cell 1
    have vf2 : W0.cell? ⟨w.heap.size, 2, none⟩ = some (.slice Af1 f.surges.length cf1) := Kf.out.cell 2
    have vd0 : W0.cell? ⟨w.heap.size + 1, 0, none⟩ = some (.slice Ad0 d.points.length cd0) := Kd.out.cell 0
    have vd1 : W0.cell? ⟨w.heap.size + 1, 1, none⟩ = some (.slice Ad1 d.segs.length cd1) := Kd.out.cell 1
    have vi0 : W0.cell? ⟨w.heap.size + 2, 0, none⟩ = some (.int .i64 i) := Ki.out.cell 0
    have vs0 : W0.cell? ⟨w.heap.size + 3, 0, none⟩ = some (.string s.name) := Ks.out.cell 0
    have vs1 : W0.cell? ⟨w.heap.size + 3, 1, none⟩ = some (.int .i64 s.length) := Ks.out.cell 1
    have vs2 : W0.cell? ⟨w.heap.size + 3, 2, none⟩ = some (.int .i64 s.draught) := Ks.out.cell 2
    have vs3 : W0.cell? ⟨w.heap.size + 3, 3, none⟩ = some (.int .i64 s.line) := Ks.out.cell 3
    have vs4 : W0.cell? ⟨w.heap.size + 3, 4, none⟩ = some (.int .i64 s.tugs) := Ks.out.cell 4
    have vs5 : W0.cell? ⟨w.heap.size + 3, 5, none⟩ = some (.bool s.slow) := Ks.out.cell 5
    have vt0 : W0.cell? ⟨w.heap.size + 4, 0, none⟩ = some (.int .i64 t) := Kt.out.cell 0
    go_wp2_with fail
    rw [← HW0.out]
    clear vf0 vf1 vf2 vd0 vd1 vi0 vs0 vs1 vs2 vs3 vs4 vs5 vt0
    refine (implShipOk s _ Ns.out).mono ?_
    rw [HTS.out]
    rintro e w1 ⟨rfl, hb1⟩
    have B1 := Lib.hid (B.out.trans (hb1.mono B.out.size))
    have Kf_1 := Lib.hid (Kf.out.below hb1)
    have Kd_1 := Lib.hid (Kd.out.below hb1)
    have Ki_1 := Lib.hid (Ki.out.below hb1)
    have Ks_1 := Lib.hid (Ks.out.below hb1)
    have Kt_1 := Lib.hid (Kt.out.below hb1)
    clear hb1
    go_wp2
    go_ret
    exact ⟨ret_int E.out.symm, B1.out⟩
  | true =>
  clear hts
  have hmf : ∀ (fn : Fn) (first cap : Array Value) (w : World), (Instr.makeFunc fn first cap).run Tryz.prog w = .ok (.func fn first cap) w := fun _ _ _ _ => rfl
  go_enter Tryz.func30, Tryz.ntmps30
  have vf0 : W0.cell? ⟨w.heap.size, 0, none⟩ = some (.int .i64 f.mean) := Kf.out.cell 0
  have vf1 : W0.cell? ⟨w.heap.size, 1, none⟩ = some (.slice Af0 f.parts.length cf0) := Kf.out.cell 1
  have vf2 : W0.cell? ⟨w.heap.size, 2, none⟩ = some (.slice Af1 f.surges.length cf1) := Kf.out.cell 2
  have vd0 : W0.cell? ⟨w.heap.size + 1, 0, none⟩ = some (.slice Ad0 d.points.length cd0) := Kd.out.cell 0
  have vd1 : W0.cell? ⟨w.heap.size + 1, 1, none⟩ = some (.slice Ad1 d.segs.length cd1) := Kd.out.cell 1
  have vi0 : W0.cell? ⟨w.heap.size + 2, 0, none⟩ = some (.int .i64 i) := Ki.out.cell 0
  have vs0 : W0.cell? ⟨w.heap.size + 3, 0, none⟩ = some (.string s.name) := Ks.out.cell 0
  have vs1 : W0.cell? ⟨w.heap.size + 3, 1, none⟩ = some (.int .i64 s.length) := Ks.out.cell 1
  have vs2 : W0.cell? ⟨w.heap.size + 3, 2, none⟩ = some (.int .i64 s.draught) := Ks.out.cell 2
  have vs3 : W0.cell? ⟨w.heap.size + 3, 3, none⟩ = some (.int .i64 s.line) := Ks.out.cell 3
  have vs4 : W0.cell? ⟨w.heap.size + 3, 4, none⟩ = some (.int .i64 s.tugs) := Ks.out.cell 4
  have vs5 : W0.cell? ⟨w.heap.size + 3, 5, none⟩ = some (.bool s.slow) := Ks.out.cell 5
  have vt0 : W0.cell? ⟨w.heap.size + 4, 0, none⟩ = some (.int .i64 t) := Kt.out.cell 0
  go_wp2_with fail
  rw [← HW0.out]
  clear vf0 vf1 vf2 vd0 vd1 vi0 vs0 vs1 vs2 vs3 vs4 vs5 vt0
  refine (implShipOk s _ Ns.out).mono ?_
  rw [HTS.out]
  rintro e w1 ⟨rfl, hb1⟩
  have B1 := Lib.hid (B.out.trans (hb1.mono B.out.size))
  have Kf_1 := Lib.hid (Kf.out.below hb1)
  have Kd_1 := Lib.hid (Kd.out.below hb1)
  have Ki_1 := Lib.hid (Ki.out.below hb1)
  have Ks_1 := Lib.hid (Ks.out.below hb1)
  have Kt_1 := Lib.hid (Kt.out.below hb1)
  clear hb1
  have I1 : Hid (DrInv w #[.int .i64 f.mean, .slice Af0 f.parts.length cf0, .slice Af1 f.surges.length cf1] #[.slice Ad0 d.points.length cd0, .slice Ad1 d.segs.length cd1] i t s w1) := Lib.hid ⟨s.draught, Kf_1.out, Kd_1.out, Ki_1.out, Ks_1.out, Kt_1.out, B1.out⟩
  clear Kf_1 Kd_1 Ki_1 Ks_1 Kt_1
  go_wp2_with fail
  refine (drSearch _ _ _ _ f _ _ _ _ d i s t w Rf.out Rd.out Nd.out Ns.out HTS.out _ I1.out).mono ?_
  rintro e w2 ⟨r, rfl, hr, hJ, hI⟩
  have E := Lib.hid (draught_found HTS.out hr hJ.out.1 hJ.out.2)
  have BZ : Hid (Below w.heap.size w w2) := Lib.hid (by obtain ⟨_, _, _, _, _, _, h⟩ := hI.out; exact h)
  clear hJ hI I1
  by_cases hz : r = 0
  · subst hz
    have E2 := Lib.hid (E.out.trans (if_pos rfl))
    clear E
    go_wp2
    go_ret
    exact ⟨ret_int E2.out.symm, BZ.out⟩
  · have E2 := Lib.hid (E.out.trans (if_neg hz))
    have hz' : ¬ ((r : Int) = 0) := by omega
    have hz2 : ((r : Int) == 0) = false := by simpa using hz
    have w1 : IntKind.i64.wrap (100 + (r : Int)) = 100 + (r : Int) := by rw [IntKind.wrap_i64]; omega
    have w3 : IntKind.i64.wrap (100 + (r : Int) - 1) = 99 + (r : Int) := by rw [IntKind.wrap_i64]; omega
    clear E
    go_wp2
    go_ret
    exact ⟨ret_int E2.out.symm, BZ.out⟩
end Go.Proofs.YtpimcbhjkednpaaGreat
