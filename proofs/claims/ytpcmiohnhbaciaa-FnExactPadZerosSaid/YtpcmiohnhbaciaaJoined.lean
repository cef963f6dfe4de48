/- impl.joined and impl.Join return their strings joined by the separator: contracts. -/
import Derived.Test.YtpcmiohnhbaciaaStrs
import Derived.Test.YtpcmiohnhbaciaaJoinPlain
import Derived.Test.YtpcmiohnhbaciaaShelf
namespace Go.Proofs.Ytpcmiohnhbaciaa
open Go.RowKit

theorem joined_any (v : Value) (l : List ByteArray) (sep : ByteArray) (w : World) (h : SlS w v l) (ht : (joinOf l sep).size ≤ 140737488355328) :
    Calls Try.prog 31 #[.string sep, v] w fun e w' => e = .returned (.string (joinOf l sep)) ∧ Below w.heap.size w w' := by
  obtain ⟨hl, h⟩ := h
  rcases h with ⟨rfl, A, c, rfl⟩ | ⟨g, o, c, rfl, hp, hcap, hc⟩
  · go_enter Try.func31, Try.ntmps31
    go_wp2_with fail
    refine (Try.strings_Join_none A c sep w).mono ?_
    rintro e w1 ⟨rfl, hw⟩
    subst hw
    go_wp2
    go_ret
    exact ⟨rfl, Below.refl _ _⟩
  · have hlt : g < w.heap.size := World.block_lt_of_cell? w ⟨g, o + 0, none⟩ (hc 0 _ (List.getElem?_eq_getElem hp))
    have hsz : (Lib.join (l.map (·.data.toList)) sep.data.toList).length ≤ 140737488355328 := ht
    have C := Lib.hid (Try.strings_Join g o c l sep w hc hlt (by omega) hcap hsz)
    clear hc hsz
    go_enter Try.func31, Try.ntmps31
    go_wp2_with fail
    refine C.out.mono ?_
    rintro e w1 ⟨rfl, hb⟩
    go_wp2
    go_ret
    exact ⟨rfl, hb⟩

theorem implJoin (v : Value) (l : List ByteArray) (sep : ByteArray) (w : World) (h : SlS w v l) (ht : (joinOf l sep).size ≤ 140737488355328) :
    Calls Try.prog 23 #[v, .string sep] w fun e w' => e = .returned (.string (joinOf l sep)) ∧ Below w.heap.size w w' := by
  have C := Lib.hid (joined_any v l sep w h ht)
  clear h ht
  go_enter Try.func23, Try.ntmps23
  go_wp2_with fail
  refine C.out.mono ?_
  rintro e w1 ⟨rfl, hb⟩
  go_wp2
  go_ret
  exact ⟨rfl, hb⟩

end Go.Proofs.Ytpcmiohnhbaciaa
