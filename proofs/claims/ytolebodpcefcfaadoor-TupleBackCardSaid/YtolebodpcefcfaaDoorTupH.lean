/- Package tuple: the number that a text tells; an address's text. Condition: the library's variables lie as laid. -/
import Derived.Test.YtolebodpcefcfaaDoorTupG
namespace Go.Proofs.YtolebodpcefcfaaDoor.tu
open Go.RowKit Go.Shelf Go.Proofs.YtolebodpcefcfaaDoor.tm
set_option linter.unusedVariables false

def ToldOut (k : IntKind) (M : Nat) (s : ByteArray) (w : World) (e : Ending) (w' : World) : Prop :=
  Up w w' ∧ ∃ (n : Nat) (b : Bool), e = .returned (.tuple #[.int k (n : Nat), .bool b]) ∧ tm.Told M (L s) n b
theorem told_no {B : Nat} {l : List UInt8} (hB : 2 ^ B - 1 ≤ 65535) (h : ∀ u, Lib.parseUintB B l ≠ .ok u) : tm.Told (2 ^ B - 1) l 0 false :=
  .inr ⟨rfl, rfl, fun m hm e => h m (by rw [← e]; exact puB_D hB hm)⟩
theorem told_other {B u : Nat} {s : ByteArray} (hB : 2 ^ B - 1 ≤ 65535) (h : Lib.parseUintB B (L s) = .ok u) (hne : ds u ≠ s) : tm.Told (2 ^ B - 1) (L s) 0 false :=
  .inr ⟨rfl, rfl, fun m hm e => by
    have := puB_D hB hm
    rw [e, h] at this
    cases this
    exact hne (ba_eq (by rw [L_ds, e]))⟩
theorem told_yes {B u : Nat} {s : ByteArray} (h : Lib.parseUintB B (L s) = .ok u) (he : ds u = s) : tm.Told (2 ^ B - 1) (L s) u true :=
  .inl ⟨rfl, Lib.parseUintB_le h, by rw [← he, L_ds]⟩

theorem pu_ret {B : Nat} {s : ByteArray} {w w' : World} {e : Ending} (h : PUOut B s w e w') : ∃ v, e = .returned v ∧ Up w w' ∧ ((∃ u, Lib.parseUintB B (L s) = .ok u ∧ v = .tuple #[.int .u64 (u : Nat), .nilIface]) ∨ ((∀ u, Lib.parseUintB B (L s) ≠ .ok u) ∧ ∃ (n : Nat) (ty : TypeId) (N : Addr), v = .tuple #[.int .u64 (n : Nat), .iface ty (.pointer (some N))])) := by
  obtain ⟨hu, ⟨u, h1, rfl⟩ | ⟨h1, n, ty, N, rfl⟩⟩ := h
  · exact ⟨_, rfl, hu, .inl ⟨u, h1, rfl⟩⟩
  · exact ⟨_, rfl, hu, .inr ⟨h1, n, ty, N, rfl⟩⟩
theorem str_true {a b : ByteArray} (h : a = b) : (a.toList == b.toList) = true := by rw [h]; exact beq_self_eq_true _
theorem str_false {a b : ByteArray} (h : a ≠ b) : (a.toList == b.toList) = false := by
  rw [beq_eq_false_iff_ne]
  intro e
  rw [Lib.toList_data, Lib.toList_data] at e
  exact h (ba_eq e)
set_option maxHeartbeats 1000000 in
set_option maxRecDepth 100000 in
theorem told16 (s : ByteArray) (w : World) (hs : s.size ≤ 1099511627776) (E : Env w) :
    Calls Tryd.prog 18 #[.string s] w (ToldOut .u16 65535 s w) := by
  go_enter Tryd.func18, Tryd.ntmps18
  go_wp2_with (first
    | (go_at_call 34; refine (size16 w).mono ?_; rintro e w' ⟨rfl, rfl⟩)
    | (go_at_call 33; refine (parseU16 s w hs E).mono ?_; intro e w1 h; obtain ⟨v, rfl, hu1, h⟩ := pu_ret h; refine Hid.out ?_))
  refine Lib.hid ?_
  rcases h with ⟨u, hp, rfl⟩ | ⟨hp, n, ty, N, rfl⟩
  · have hle : u ≤ 65535 := Lib.parseUintB_le hp
    have E1 := E.up hu1
    by_cases hd : ds u = s
    · have HT := Lib.hid (told_yes hp hd)
      have hd1 := str_true hd
      have HP := Lib.hid hp; have HD := Lib.hid hd; clear hp hd
      go_wp2_with (go_at_call 35; refine (formatU u w1 (by omega) E1).mono ?_; rintro e w2 ⟨rfl, hu2⟩)
      go_ret2
      exact ⟨hu1.on hu2, u, true, rfl, HT.out⟩
    · have HT := Lib.hid (told_other (B := 16) (by decide) hp hd)
      have hd1 := str_false hd
      have HP := Lib.hid hp; have HD := Lib.hid hd; clear hp hd
      go_wp2_with (go_at_call 35; refine (formatU u w1 (by omega) E1).mono ?_; rintro e w2 ⟨rfl, hu2⟩)
      go_ret2
      exact ⟨hu1.on hu2, 0, false, rfl, HT.out⟩
  · have HT := Lib.hid (told_no (B := 16) (by decide) hp)
    clear hp
    go_wp2
    go_ret2
    exact ⟨hu1, 0, false, rfl, HT.out⟩
set_option maxHeartbeats 1000000 in
set_option maxRecDepth 100000 in
theorem told8 (s : ByteArray) (w : World) (hs : s.size ≤ 1099511627776) (E : Env w) :
    Calls Tryd.prog 20 #[.string s] w (ToldOut .u8 255 s w) := by
  go_enter Tryd.func20, Tryd.ntmps20
  go_wp2_with (first
    | (go_at_call 37; refine (size8 w).mono ?_; rintro e w' ⟨rfl, rfl⟩)
    | (go_at_call 33; refine (parseU8 s w hs E).mono ?_; intro e w1 h; obtain ⟨v, rfl, hu1, h⟩ := pu_ret h; refine Hid.out ?_))
  refine Lib.hid ?_
  rcases h with ⟨u, hp, rfl⟩ | ⟨hp, n, ty, N, rfl⟩
  · have hle : u ≤ 255 := Lib.parseUintB_le hp
    have E1 := E.up hu1
    by_cases hd : ds u = s
    · have HT := Lib.hid (told_yes hp hd)
      have hd1 := str_true hd
      have HP := Lib.hid hp; have HD := Lib.hid hd; clear hp hd
      go_wp2_with (go_at_call 35; refine (formatU u w1 (by omega) E1).mono ?_; rintro e w2 ⟨rfl, hu2⟩)
      go_ret2
      exact ⟨hu1.on hu2, u, true, rfl, HT.out⟩
    · have HT := Lib.hid (told_other (B := 8) (by decide) hp hd)
      have hd1 := str_false hd
      have HP := Lib.hid hp; have HD := Lib.hid hd; clear hp hd
      go_wp2_with (go_at_call 35; refine (formatU u w1 (by omega) E1).mono ?_; rintro e w2 ⟨rfl, hu2⟩)
      go_ret2
      exact ⟨hu1.on hu2, 0, false, rfl, HT.out⟩
  · have HT := Lib.hid (told_no (B := 8) (by decide) hp)
    clear hp
    go_wp2
    go_ret2
    exact ⟨hu1, 0, false, rfl, HT.out⟩
end Go.Proofs.YtolebodpcefcfaaDoor.tu
