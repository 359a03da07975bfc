/- W: contracts, part 1. Condition: as each says. -/
import Derived.Test.YtafckmbgefbonaaGreatVTRW5
set_option linter.unusedVariables false
set_option linter.unusedSimpArgs false
set_option maxRecDepth 100000
set_option maxHeartbeats 8000000
namespace Go.Proofs.YtafckmbgefbonaaGreat.nb
open RowKit Shelf

section
variable {P : Program}

theorem conv_box {xs : List UInt8} {g n : Nat} {W : World} (hn : xs.length = n) (h : Box W g (BC xs)) :
  (convert 66 9 (.slice (some ⟨g, 0, none⟩) n n)).run Tryz.prog W = .ok (.string (tx xs)) W := by
 subst hn
 refine run_convert_bytes_back (P := Tryz.prog) W 66 9 5 ⟨g, 0, none⟩ xs.length xs Tryz.underlying66 Tryz.underlying5 Tryz.underlying9 (fun j hj => ?_)
 rw [show (⟨g, 0, none⟩ : Addr).add j = ⟨g, j, none⟩ by unfold Addr.add; split <;> simp_all]
 exact h.at j (by simp [BC, Lib.byteCells, hj])
end
end Go.Proofs.YtafckmbgefbonaaGreat.nb

namespace Go.Proofs.YtafckmbgefbonaaGreat.pk
open RowKit Shelf Lib sm nb pm

theorem ret_u32 {a b : Int} (h : a = b) : Ending.returned (.int .u32 a) = .returned (.int .u32 b) := by rw [h]
theorem refNext (a p b q y z f i m : Nat) (s : Int) (k : Bool) (A : Option Addr) (n c : Nat) (t : Bool) (v e : Nat) (S : ByteArray) (w : World) (hy : y ≤ 4294967295) (hf : f ≤ 255) (hS : S.size ≤ 1048576) :
  Calls Tryz.prog 15 #[SA a p b q y z f i m s k A n c t v e S] w fun e_ w' => e_ = .returned (.int .u32 (((y + S.size + f / 2 % 2 + f % 2) % 4294967296 : Nat) : Int)) ∧ Up w w' := by
 obtain ⟨g, hg⟩ : ∃ g, g = (y + S.size) % 4294967296 := ⟨_, rfl⟩
 have w0 : IntKind.u32.wrap (S.size : Int) = (S.size : Int) := by rw [IntKind.wrap_u32]; omega
 have w1 : IntKind.u32.wrap ((y : Int) + (S.size : Int)) = (g : Int) := by rw [hg, IntKind.wrap_u32]; omega
 have w2 : ((y : Int) + (S.size : Int)) % 4294967296 = (g : Int) := by rw [hg]; omega
 have HG := Lib.hid hg
 have hg4 : g < 4294967296 := by rw [hg]; exact Nat.mod_lt _ (by decide)
 clear hg
 have q2 := f2 f hf
 have q1 := f1 f hf
 rcases (by omega : f / 2 % 2 = 0 ∨ f / 2 % 2 = 1) with h2 | h2 <;> rcases (by omega : f % 2 = 0 ∨ f % 2 = 1) with h1 | h1
 ·rw [h2] at q2; rw [h1] at q1
  have H2 := Lib.hid h2; have H1 := Lib.hid h1
  clear h2 h1
  have r2 : bits .and .u8 (f : Int) 2 = 0 := by rw [q2]; rfl
  have r1 : bits .and .u8 (f : Int) 1 = 0 := by rw [q1]; rfl
  clear q2 q1
  go_enter Tryz.func15, Tryz.ntmps15
  go_upto_region 1 with fail
  have hA := Box.new w #[.int .u32 a, .int .u16 p, .int .u32 b, .int .u16 q, .int .u32 y, .int .u32 z, .int .u8 f, .int .u16 i, .int .u16 m, .int .i64 s, .bool k, .slice A n c, .bool t, .int .u32 v, .int .u32 e, .string S] 30
  have hu : Up w (w.alloc (.cells #[.int .u32 a, .int .u16 p, .int .u32 b, .int .u16 q, .int .u32 y, .int .u32 z, .int .u8 f, .int .u16 i, .int .u16 m, .int .i64 s, .bool k, .slice A n c, .bool t, .int .u32 v, .int .u32 e, .string S] 30)) := up_al _ bR
  generalize World.alloc w _ = w0 at hA hu ⊢
  generalize w.heap.size = n0 at hA ⊢
  obtain ⟨k0, k1, k2, k3, k4, k5, k6, k7, k8, k9, k10, k11, k12, k13, k14, k15⟩ := e16 hA
  go_wp2
  go_ret
  refine ⟨ret_u32 ?_, hu⟩
  have a1 := HG.out; have a2 := H2.out; have a3 := H1.out
  omega
 ·rw [h2] at q2; rw [h1] at q1
  have H2 := Lib.hid h2; have H1 := Lib.hid h1
  clear h2 h1
  have r2 : bits .and .u8 (f : Int) 2 = 0 := by rw [q2]; rfl
  have r1 : bits .and .u8 (f : Int) 1 = 1 := by rw [q1]; rfl
  clear q2 q1
  obtain ⟨g1, hg1⟩ : ∃ g1, g1 = (g + 1) % 4294967296 := ⟨_, rfl⟩
  have w3 : IntKind.u32.wrap ((g : Int) + 1) = (g1 : Int) := by rw [hg1, IntKind.wrap_u32]; omega
  have w4 : ((g : Int) + 1) % 4294967296 = (g1 : Int) := by rw [hg1]; omega
  have HG1 := Lib.hid hg1
  clear hg1
  go_enter Tryz.func15, Tryz.ntmps15
  go_upto_region 1 with fail
  have hA := Box.new w #[.int .u32 a, .int .u16 p, .int .u32 b, .int .u16 q, .int .u32 y, .int .u32 z, .int .u8 f, .int .u16 i, .int .u16 m, .int .i64 s, .bool k, .slice A n c, .bool t, .int .u32 v, .int .u32 e, .string S] 30
  have hu : Up w (w.alloc (.cells #[.int .u32 a, .int .u16 p, .int .u32 b, .int .u16 q, .int .u32 y, .int .u32 z, .int .u8 f, .int .u16 i, .int .u16 m, .int .i64 s, .bool k, .slice A n c, .bool t, .int .u32 v, .int .u32 e, .string S] 30)) := up_al _ bR
  generalize World.alloc w _ = w0 at hA hu ⊢
  generalize w.heap.size = n0 at hA ⊢
  obtain ⟨k0, k1, k2, k3, k4, k5, k6, k7, k8, k9, k10, k11, k12, k13, k14, k15⟩ := e16 hA
  go_wp2
  go_ret
  refine ⟨ret_u32 ?_, hu⟩
  have a1 := HG.out; have a2 := H2.out; have a3 := H1.out; have a4 := HG1.out
  omega
 ·rw [h2] at q2; rw [h1] at q1
  have H2 := Lib.hid h2; have H1 := Lib.hid h1
  clear h2 h1
  have r2 : bits .and .u8 (f : Int) 2 = 2 := by rw [q2]; rfl
  have r1 : bits .and .u8 (f : Int) 1 = 0 := by rw [q1]; rfl
  clear q2 q1
  obtain ⟨g1, hg1⟩ : ∃ g1, g1 = (g + 1) % 4294967296 := ⟨_, rfl⟩
  have w3 : IntKind.u32.wrap ((g : Int) + 1) = (g1 : Int) := by rw [hg1, IntKind.wrap_u32]; omega
  have w4 : ((g : Int) + 1) % 4294967296 = (g1 : Int) := by rw [hg1]; omega
  have HG1 := Lib.hid hg1
  clear hg1
  go_enter Tryz.func15, Tryz.ntmps15
  go_upto_region 1 with fail
  have hA := Box.new w #[.int .u32 a, .int .u16 p, .int .u32 b, .int .u16 q, .int .u32 y, .int .u32 z, .int .u8 f, .int .u16 i, .int .u16 m, .int .i64 s, .bool k, .slice A n c, .bool t, .int .u32 v, .int .u32 e, .string S] 30
  have hu : Up w (w.alloc (.cells #[.int .u32 a, .int .u16 p, .int .u32 b, .int .u16 q, .int .u32 y, .int .u32 z, .int .u8 f, .int .u16 i, .int .u16 m, .int .i64 s, .bool k, .slice A n c, .bool t, .int .u32 v, .int .u32 e, .string S] 30)) := up_al _ bR
  generalize World.alloc w _ = w0 at hA hu ⊢
  generalize w.heap.size = n0 at hA ⊢
  obtain ⟨k0, k1, k2, k3, k4, k5, k6, k7, k8, k9, k10, k11, k12, k13, k14, k15⟩ := e16 hA
  go_wp2
  go_ret
  refine ⟨ret_u32 ?_, hu⟩
  have a1 := HG.out; have a2 := H2.out; have a3 := H1.out; have a4 := HG1.out
  omega
 ·rw [h2] at q2; rw [h1] at q1
  have H2 := Lib.hid h2; have H1 := Lib.hid h1
  clear h2 h1
  have r2 : bits .and .u8 (f : Int) 2 = 2 := by rw [q2]; rfl
  have r1 : bits .and .u8 (f : Int) 1 = 1 := by rw [q1]; rfl
  clear q2 q1
  obtain ⟨g1, hg1⟩ : ∃ g1, g1 = (g + 1) % 4294967296 := ⟨_, rfl⟩
  have w3 : IntKind.u32.wrap ((g : Int) + 1) = (g1 : Int) := by rw [hg1, IntKind.wrap_u32]; omega
  have w4 : ((g : Int) + 1) % 4294967296 = (g1 : Int) := by rw [hg1]; omega
  have HG1 := Lib.hid hg1
  clear hg1
  obtain ⟨g2, hg2⟩ : ∃ g2, g2 = (g1 + 1) % 4294967296 := ⟨_, rfl⟩
  have w5 : IntKind.u32.wrap ((g1 : Int) + 1) = (g2 : Int) := by rw [hg2, IntKind.wrap_u32]; omega
  have w6 : ((g1 : Int) + 1) % 4294967296 = (g2 : Int) := by rw [hg2]; omega
  have HG2 := Lib.hid hg2
  clear hg2
  go_enter Tryz.func15, Tryz.ntmps15
  go_upto_region 1 with fail
  have hA := Box.new w #[.int .u32 a, .int .u16 p, .int .u32 b, .int .u16 q, .int .u32 y, .int .u32 z, .int .u8 f, .int .u16 i, .int .u16 m, .int .i64 s, .bool k, .slice A n c, .bool t, .int .u32 v, .int .u32 e, .string S] 30
  have hu : Up w (w.alloc (.cells #[.int .u32 a, .int .u16 p, .int .u32 b, .int .u16 q, .int .u32 y, .int .u32 z, .int .u8 f, .int .u16 i, .int .u16 m, .int .i64 s, .bool k, .slice A n c, .bool t, .int .u32 v, .int .u32 e, .string S] 30)) := up_al _ bR
  generalize World.alloc w _ = w0 at hA hu ⊢
  generalize w.heap.size = n0 at hA ⊢
  obtain ⟨k0, k1, k2, k3, k4, k5, k6, k7, k8, k9, k10, k11, k12, k13, k14, k15⟩ := e16 hA
  go_wp2
  go_ret
  refine ⟨ret_u32 ?_, hu⟩
  have a1 := HG.out; have a2 := H2.out; have a3 := H1.out; have a4 := HG1.out; have a5 := HG2.out
  omega
end Go.Proofs.YtafckmbgefbonaaGreat.pk
