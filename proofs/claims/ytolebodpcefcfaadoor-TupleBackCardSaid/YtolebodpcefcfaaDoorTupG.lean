/- Numbers as texts, and texts as numbers: the library's contracts at this translation. Condition: the library's table, its two errors, lie as the program lays them. -/
import Derived.Test.YtolebodpcefcfaaDoorTupF
import Derived.Shelf.Strconv.AppendInt10
import Derived.Shelf.Strconv.Itoa1
import Derived.Shelf.Strconv.Itoa2
import Derived.Shelf.Pu.ErrVarParseUint
import Derived.Shelf.Pu.ParseUintPublic10
import Derived.Lib.AppendIntMem
import Derived.Lib.ItoaMem
import Derived.Lib.SmallJoins
import Derived.Lib.ParseIntBCases
namespace Go.Proofs.YtolebodpcefcfaaDoor.tu
open Go.RowKit Go.Shelf Go.Sort Go.Lib Go.Proofs.YtolebodpcefcfaaDoor.tm
set_option linter.unusedVariables false

/-- what the library's variables hold -/
structure Env (W : World) : Prop where
  tab : Lib.TabIs Tryd.prog W "internal/strconv.uint64pow10" .u64 Lib.pow10Tab
  syn : ∃ tp p, W.var? Tryd.prog "strconv.ErrSyntax" = some #[.iface tp p]
  rng : ∃ tp p, W.var? Tryd.prog "strconv.ErrRange" = some #[.iface tp p]
  max : ∃ m, W.cell? ⟨0, 0, none⟩ = some (.int .i64 m)
theorem gTab : Tryd.prog.globalNamed "internal/strconv.uint64pow10" = some 1 := by kernel_rfl
theorem gSyn : Tryd.prog.globalNamed "strconv.ErrSyntax" = some 2 := by kernel_rfl
theorem gRng : Tryd.prog.globalNamed "strconv.ErrRange" = some 3 := by kernel_rfl
theorem Env.up {W W' : World} (h : Env W) (hu : Up W W') : Env W' := by
  obtain ⟨m, hm⟩ := h.max
  have hb := World.block_lt_of_cell? W _ hm
  have hv : ∀ n cs (g : Nat), Tryd.prog.globalNamed n = some g → W.var? Tryd.prog n = some cs → W'.var? Tryd.prog n = some cs := fun n cs g hg h1 => by
    exact Joins.var_stays hg h1 hu (Nat.le_refl _)
  exact ⟨hv _ _ _ gTab h.tab, h.syn.elim fun a ⟨b, c⟩ => ⟨a, b, hv _ _ _ gSyn c⟩, h.rng.elim fun a ⟨b, c⟩ => ⟨a, b, hv _ _ _ gRng c⟩, m, (hu.cell hb).trans hm⟩

theorem up_grow {w0 w : World} (h : Up w0 w) (k : Nat) (os : Array Obj) : Up w0 (grow (w.drewN k) os) := h.trans (below_grow _ _ h.size _ _)

/-! ### a number's digits, appended -/
theorem appendU (B u : Nat) (v : Value) (xs : List UInt8) (w : World) (hu : u ≤ 65535) (hown : OwnB w B v xs) (hx : xs.length ≤ 1024) (hB : B ≤ w.heap.size) (E : Env w) :
    Calls Tryd.prog 27 #[v, .int .u64 u, .int .i64 10] w fun e w' => (∃ v', e = .returned v' ∧ OwnB w' B v' (xs ++ D u)) ∧ Below B w w' := by
  go_enter Tryd.func27, Tryd.ntmps27
  go_wp2_with (go_at_call 39; refine (Any.internal_strconv_AppendUint_10 Tryd.lAppendUint B xs.length u (by omega) v (BC xs) w hown hB (by omega) E.tab).mono ?_; rintro e w1 ⟨v1, rfl, ho, hb, -⟩)
  go_ret
  refine ⟨⟨_, rfl, ?_⟩, hb⟩
  unfold OwnB
  rw [List.length_append, show BC (xs ++ D u) = BC xs ++ BC (D u) by simp [BC, Lib.byteCells]]
  exact ho


set_option maxHeartbeats 1000000 in
set_option maxRecDepth 100000 in
theorem formatI (u : Nat) (w : World) (hu : u ≤ 65535) (E : Env w) :
    Calls Tryd.prog 46 #[.int .u64 u, .int .i64 10] w fun e w' => e = .returned (.string (ds u)) ∧ Up w w' := by
  by_cases h : u < 100
  · go_enter Tryd.func46, Tryd.ntmps46
    go_wp2_with (go_at_call 50; refine (Any.internal_strconv_small Tryd.lSmall u h _).mono ?_; rintro e w' ⟨rfl, rfl⟩)
    go_ret
    exact ⟨rfl, Below.refl _ _⟩
  · have hu1 : 1 ≤ u := by omega
    have hu64 : u < 18446744073709551616 := by omega
    have hnd20 : Lib.nDigits u ≤ 20 := by have := D_len (n := u) (by omega); rw [show (D u).length = Lib.nDigits u from Lib.decDigits_length u] at this; omega
    have hb3 : Lib.nDigits u ≤ 24 := by omega
    have hal : Tryd.prog.arrayLen 78 = 24 := by kernel_rfl
    have hsl1 : ∀ W, (Instr.sliceAt 78 (.pointer (some ⟨w.heap.size, 0, none⟩)) none (some (.int .i64 (Lib.nDigits u : Int))) none).run Tryd.prog W = .ok (.slice (some ⟨w.heap.size, 0, none⟩) (Lib.nDigits u) 24) W := fun W => by
      rw [run_sliceAt_array_h W 78 ⟨w.heap.size, 0, none⟩ (by simp [Program.arrayLen, Program.elem, Tryd.underlying78]) .i64 (Lib.nDigits u : Int) (by omega) (by rw [hal]; omega)]
      go_simp
    have hH0 := Lib.holds_zero0 w 78 (Lib.nDigits u) hb3
    have hfmt := Any.internal_strconv_formatBase10 Tryd.lBase10 w.heap.size 0 24 u (Array.replicate (Lib.nDigits u) 0) (w.alloc (.cells Lib.zeros24 78)) hH0 (by rw [Array.size_replicate]; exact Lib.lt_pow_nDigits u) hu64 (by rw [Array.size_replicate]; omega)
    rw [Array.size_replicate] at hfmt
    have HH0 := Lib.hid hH0
    clear hH0 hal
    have htab := E.tab
    go_enter Tryd.func46, Tryd.ntmps46
    go_wp2_with (first
      | (go_at_call 51; refine (Any.internal_strconv_numDigits Tryd.lDigits u hu1 hu64 _ (Lib.tabIs_alloc htab _)).mono ?_; rintro e w' ⟨rfl, rfl⟩))
    go_at_call 52
    refine hfmt.mono ?_
    rintro e w' ⟨rfl, k, v', dk, rfl, hF⟩
    have hcv : (convert 43 9 (.slice (some ⟨w.heap.size, 0, none⟩) (Lib.nDigits u) 24)).run Tryd.prog ((putRow (fun (b : UInt8) => Value.int .u8 (b.toNat : Int)) (w.alloc (.cells Lib.zeros24 78)) w.heap.size 0 dk).drewN k) = .ok (.string (ds u)) ((putRow (fun (b : UInt8) => Value.int .u8 (b.toNat : Int)) (w.alloc (.cells Lib.zeros24 78)) w.heap.size 0 dk).drewN k) := by
      have h := run_convert_bytes_back (P := Tryd.prog) ((putRow (fun (b : UInt8) => Value.int .u8 (b.toNat : Int)) (w.alloc (.cells Lib.zeros24 78)) w.heap.size 0 dk).drewN k) 43 9 5 ⟨w.heap.size, 0, none⟩ 24 (Lib.decDigits u) Tryd.underlying43 Tryd.underlying5 Tryd.underlying9 (fun j hj => by
        rw [Lib.row_is_numeral hF j hj, Lib.add_plain, World.cell?_drewN]
        exact cell?_putRow (fun (b : UInt8) => Value.int .u8 (b.toNat : Int)) _ w.heap.size 0 _ dk HH0.out (by rw [hF.size, Array.size_replicate]) j (by rw [hF.size]; rw [Lib.decDigits_length] at hj; exact hj))
      rw [Lib.decDigits_length] at h
      exact h
    go_wp2
    go_ret
    obtain ⟨os, eo⟩ := Lib.fin_at w (.cells Lib.zeros24 78) dk k 0
    rw [eo]
    exact ⟨rfl, up_grow (Below.refl _ _) k os⟩
theorem formatU (u : Nat) (w : World) (hu : u ≤ 65535) (E : Env w) :
    Calls Tryd.prog 35 #[.int .u64 u, .int .i64 10] w fun e w' => e = .returned (.string (ds u)) ∧ Up w w' := by
  go_enter Tryd.func35, Tryd.ntmps35
  go_wp2_with (go_at_call 46; refine (formatI u w hu E).mono ?_; rintro e w1 ⟨rfl, hb⟩)
  go_ret
  exact ⟨rfl, hb⟩

/-! ### a text's number -/
/-- what ParseUint leaves: the number, or an error that is not nil -/
def PUOut (B : Nat) (s : ByteArray) (w : World) (e : Ending) (w' : World) : Prop :=
  Up w w' ∧ ((∃ u, Lib.parseUintB B (L s) = .ok u ∧ e = .returned (.tuple #[.int .u64 (u : Nat), .nilIface])) ∨ ((∀ u, Lib.parseUintB B (L s) ≠ .ok u) ∧ ∃ (n : Nat) (ty : TypeId) (N : Addr), e = .returned (.tuple #[.int .u64 (n : Nat), .iface ty (.pointer (some N))])))
theorem up_bytes {w w' : World} {s : ByteArray} (h : w' = w ∨ w' = Lib.bytesWorld w 5 s) : Up w w' := by
  rcases h with rfl | rfl
  · exact Below.refl _ _
  · exact Lib.bytesWorld_below _ _ _
theorem parseU8 (s : ByteArray) (w : World) (hs : s.size ≤ 1099511627776) (E : Env w) :
    Calls Tryd.prog 33 #[.string s, .int .i64 10, .int .i64 8] w (PUOut 8 s w) := by
  rcases h : Lib.parseUintB 8 s.data.toList with u | _ | _
  · exact (Any.strconv_ParseUint_10_at8_ok Tryd.lParseUint s (by omega) u h w).mono fun e w' ⟨h1, h2⟩ => ⟨up_bytes h2, .inl ⟨u, h, h1⟩⟩
  · obtain ⟨tp, p, hv⟩ := E.syn
    exact (Any.strconv_ParseUint_10_at8_syntax_var Tryd.lParseUint s (by omega) h tp p w hv).mono fun e w' ⟨N, h1, _, _, h2⟩ => ⟨h2, .inr ⟨fun u e => (by rw [L, h] at e; cases e), 0, _, _, h1⟩⟩
  · obtain ⟨tp, p, hv⟩ := E.rng
    exact (Any.strconv_ParseUint_10_at8_range_var Tryd.lParseUint s (by omega) h tp p w hv).mono fun e w' ⟨N, h1, _, _, h2⟩ => ⟨h2, .inr ⟨fun u e => (by rw [L, h] at e; cases e), 255, _, _, h1⟩⟩
theorem parseU16 (s : ByteArray) (w : World) (hs : s.size ≤ 1099511627776) (E : Env w) :
    Calls Tryd.prog 33 #[.string s, .int .i64 10, .int .i64 16] w (PUOut 16 s w) := by
  rcases h : Lib.parseUintB 16 s.data.toList with u | _ | _
  · exact (Any.strconv_ParseUint_10_at16_ok Tryd.lParseUint s (by omega) u h w).mono fun e w' ⟨h1, h2⟩ => ⟨up_bytes h2, .inl ⟨u, h, h1⟩⟩
  · obtain ⟨tp, p, hv⟩ := E.syn
    exact (Any.strconv_ParseUint_10_at16_syntax_var Tryd.lParseUint s (by omega) h tp p w hv).mono fun e w' ⟨N, h1, _, _, h2⟩ => ⟨h2, .inr ⟨fun u e => (by rw [L, h] at e; cases e), 0, _, _, h1⟩⟩
  · obtain ⟨tp, p, hv⟩ := E.rng
    exact (Any.strconv_ParseUint_10_at16_range_var Tryd.lParseUint s (by omega) h tp p w hv).mono fun e w' ⟨N, h1, _, _, h2⟩ => ⟨h2, .inr ⟨fun u e => (by rw [L, h] at e; cases e), 65535, _, _, h1⟩⟩
end Go.Proofs.YtolebodpcefcfaaDoor.tu
