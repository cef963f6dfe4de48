/- For every string of at most 1048576 bytes, impl.ParseInt returns the int that the string spells, and true; or 0 and false: a contract, in a world where the library's variables hold what its text lays. -/
import Derived.Test.YtpcmiohnhbaciaaDoorParsePlain
import Derived.Test.YtpcmiohnhbaciaaDoorLaid
import Derived.Test.YtpcmiohnhbaciaaDoorFormat
import Derived.Test.YtpcmiohnhbaciaaDoorFormatImpl
import Derived.Lib.ConvBytes
namespace Go.Proofs.YtpcmiohnhbaciaaDoor
open Go.RowKit

/-- What the library's variables hold. -/
def LibIs (w : World) : Prop := PowIs w ∧ (∃ t p, w.var? Tryd.prog "strconv.ErrSyntax" = some #[.iface t p]) ∧ (∃ t p, w.var? Tryd.prog "strconv.ErrRange" = some #[.iface t p])
theorem gSyn : Tryd.prog.globalNamed "strconv.ErrSyntax" = some 0 := by kernel_rfl
theorem gRng : Tryd.prog.globalNamed "strconv.ErrRange" = some 1 := by kernel_rfl
theorem LibIs.below {w w' : World} (h : LibIs w) (hb : Below w.heap.size w w') : LibIs w' := by
  obtain ⟨h1, ⟨t, p, h2⟩, ⟨t', p', h3⟩⟩ := h
  exact ⟨h1.below hb, ⟨t, p, Joins.var_stays gSyn h2 hb (Nat.le_refl _)⟩, ⟨t', p', Joins.var_stays gRng h3 hb (Nat.le_refl _)⟩⟩

theorem gSynType : (Tryd.prog.globals[0]?).map (·.type) = some 39 := by kernel_rfl
theorem gRngType : (Tryd.prog.globals[1]?).map (·.type) = some 39 := by kernel_rfl
theorem cellsErr : Tryd.prog.cellsOf 81 = 1 := by kernel_rfl
theorem cellsStr : Tryd.prog.cellsOf 9 = 1 := by kernel_rfl
theorem starErr : "*" ++ "errors.errorString" = "*errors.errorString" := by decide
theorem errRow (u : TypeId) (h : Tryd.prog.typeName? 3 u = some "*errors.errorString") : u = 79 :=
  typeName_ptr_named (nm := "errors.errorString") (by rw [starErr]; kernel_rfl) (by kernel_rfl) (by decide) u (by rw [starErr]; exact h)
theorem LibIs.of_laid {w : World} {a b : String × DataW Unit} (h : laidMet Tryd.prog [a, b, ("internal/strconv.uint64pow10", Rows.laid_internal_strconv_uint64pow10), ("strconv.ErrRange", Rows.laid_strconv_ErrRange), ("strconv.ErrSyntax", Rows.laid_strconv_ErrSyntax)] w) : LibIs w := by
  have h3 := laidMet.tail (laidMet.tail (laidMet.tail h))
  have h4 := laidMet.tail h3
  obtain ⟨a3, _, hv3, -⟩ := laid_sentinel h3 gRng gRngType Tryd.underlying39 errRow Tryd.underlying79 Tryd.underlying81 rfl rfl Tryd.underlying9 cellsErr cellsStr
  obtain ⟨a4, _, hv4, -⟩ := laid_sentinel h4 gSyn gSynType Tryd.underlying39 errRow Tryd.underlying79 Tryd.underlying81 rfl rfl Tryd.underlying9 cellsErr cellsStr
  exact ⟨PowIs.of_laid h, ⟨_, _, hv4⟩, ⟨_, _, hv3⟩⟩

theorem below_bytesWorld (w : World) (e : TypeId) (s : ByteArray) : Below w.heap.size w (Lib.bytesWorld w e s) := by
  have h : (Lib.bytesWorld w e s).os = w.os ∧ (Lib.bytesWorld w e s).tape = w.tape ∧ (Lib.bytesWorld w e s).output = w.output := by
    unfold Lib.bytesWorld World.freeze
    split <;> exact ⟨rfl, rfl, rfl⟩
  exact ⟨h.1, h.2.1, h.2.2, by rw [Lib.bytesWorld_size]; omega, fun k hk => Lib.bytesWorld_at_old w e s k hk⟩

def ParseOut (o : Option Int) (w : World) (e : Ending) (w' : World) : Prop := e = .returned (.tuple #[.int .i64 (o.getD 0), .bool o.isSome]) ∧ Below w.heap.size w w'

theorem numT_eq (v : Int) (s : ByteArray) : numT v = s ↔ Lib.itoa v = s.data.toList := by
  constructor
  · intro h; rw [← h]; rfl
  · intro h; apply ba_ext; rw [← h]; rfl
theorem implL_ok {l : List UInt8} {v : Int} (h : Lib.atoiAll l = .ok v) : implL l = if Lib.itoa v = l then some v else none := by
  unfold implL; rw [h]
theorem implL_syntax {l : List UInt8} (h : Lib.atoiAll l = Lib.NumEnd.syntax) : implL l = none := by
  unfold implL; rw [h]
theorem implL_range {l : List UInt8} (h : Lib.atoiAll l = .range) : implL l = none := by
  unfold implL; rw [h]
theorem atoi_range {l : List UInt8} {v : Int} (h : Lib.atoiAll l = .ok v) : inRange v := by
  unfold Lib.atoiAll at h
  split at h
  · cases h
  · rename_i c r
    simp only at h
    split at h
    · cases h
    · cases h
    · split at h
      · cases h
      · split at h
        · cases h
        · injection h with h
          unfold inRange
          rw [← h]
          split <;> omega

set_option maxHeartbeats 1000000 in
theorem implParse (s : ByteArray) (w : World) (hs : s.size ≤ 1048576) (hL : LibIs w) :
    Calls Tryd.prog 7 #[.string s] w (ParseOut (implL s.data.toList) w) := by
  have HL := Lib.hid hL
  obtain ⟨_, ⟨t1, p1, hv1⟩, ⟨t2, p2, hv2⟩⟩ := hL
  rcases ha : Lib.atoiAll s.data.toList with v | _ | _
  · have C := Lib.hid (Tryd.strconv_Atoi_ok s (by omega) v ha w)
    have HI := Lib.hid (implL_ok ha)
    obtain ⟨r0, r1⟩ := atoi_range ha
    clear ha hv1 hv2
    go_enter Tryd.func7, Tryd.ntmps7
    go_wp2_with fail
    refine C.out.mono ?_
    rintro e w1 ⟨rfl, hw⟩
    have hb : Below w.heap.size w w1 := by
      rcases hw with rfl | ⟨t, rfl⟩
      · exact Below.refl _ _
      · exact below_bytesWorld _ _ _
    clear hw
    go_wp2_with fail
    refine (implFormat v w1 r0 r1 (HL.out.below hb).1).mono ?_
    rintro e w2 ⟨rfl, hb2⟩
    have hB : Below w.heap.size w w2 := hb.trans (hb2.mono hb.size)
    by_cases heq : numT v = s
    · have hI := Lib.hid (HI.out.trans (if_pos ((numT_eq v s).1 heq)))
      subst heq
      go_wp2
      go_ret2
      exact ⟨by rw [hI.out]; rfl, hB⟩
    · have hI := Lib.hid (HI.out.trans (if_neg (fun h => heq ((numT_eq v s).2 h))))
      have hne : ((numT v).toList == s.toList) = false := by
        rw [beq_eq_false_iff_ne, ByteArray.toList_eq, ByteArray.toList_eq]
        exact fun h => heq (ba_ext h)
      clear heq
      go_wp2
      go_ret2
      exact ⟨by rw [hI.out]; rfl, hB⟩
  · have C := Lib.hid (Tryd.strconv_Atoi_syntax_var s (by omega) ha t1 p1 w hv1)
    have HI := Lib.hid (implL_syntax ha)
    clear ha hv1 hv2
    go_enter Tryd.func7, Tryd.ntmps7
    go_wp2_with fail
    refine C.out.mono ?_
    rintro e w1 ⟨N, rfl, _, _, hb⟩
    go_wp2
    go_ret2
    exact ⟨by rw [HI.out]; rfl, hb⟩
  · have C := Lib.hid (Tryd.strconv_Atoi_range_var s (by omega) ha t2 p2 w hv2)
    have HI := Lib.hid (implL_range ha)
    clear ha hv1 hv2
    go_enter Tryd.func7, Tryd.ntmps7
    go_wp2_with fail
    refine C.out.mono ?_
    rintro e w1 ⟨N, rfl, _, _, hb⟩
    go_wp2
    go_ret2
    exact ⟨by rw [HI.out]; rfl, hb⟩

end Go.Proofs.YtpcmiohnhbaciaaDoor
