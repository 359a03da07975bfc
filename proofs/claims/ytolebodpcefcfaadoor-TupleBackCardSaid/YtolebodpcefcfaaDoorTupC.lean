/- Package tuple: an address's bytes; the document's answer. Condition: the arguments fit their kinds. -/
import Derived.Test.YtolebodpcefcfaaDoorTupB
import Derived.Deep.RegionHeld3
import Derived.Deep.RegionWith
import Derived.Deep.DeepCutAuto
namespace Go.Proofs.YtolebodpcefcfaaDoor.tu
open Go.RowKit Go.Shelf Go.Proofs.YtolebodpcefcfaaDoor.tm
set_option linter.unusedVariables false

def BA (i p : Nat) : List UInt8 := B32 i ++ B16 p
def bs (i p : Nat) : ByteArray := ⟨(BA i p).toArray⟩
theorem L_bs (i p : Nat) : L (bs i p) = BA i p := by simp [bs]
theorem conv_at {w W : World} {B g cap : Nat} {xs : List UInt8} (h : OwnB w B (.slice (some ⟨g, 0, none⟩) xs.length cap) xs) (hW : ∀ a, W.cell? a = w.cell? a) :
    (convert 43 9 (.slice (some ⟨g, 0, none⟩) xs.length cap)).run Tryd.prog W = .ok (.string ⟨xs.toArray⟩) W :=
  run_convert_bytes_back (P := Tryd.prog) W 43 9 5 ⟨g, 0, none⟩ cap xs Tryd.underlying43 Tryd.underlying5 Tryd.underlying9 (fun j hj => by rw [hW]; exact World.ownsRow.cells h (g := g) rfl j _ (by simp [BC, Lib.byteCells, hj]))
theorem conv_own {w : World} {B : Nat} {v : Value} {xs : List UInt8} (h : OwnB w B v xs) (n : Nat) (hn : xs.length = n) (h0 : 0 < n) :
    ∃ g cap, v = .slice (some ⟨g, 0, none⟩) n cap ∧ (∀ m, (convert 43 9 (.slice (some ⟨g, 0, none⟩) n cap)).run Tryd.prog (w.drewN m) = .ok (.string ⟨xs.toArray⟩) (w.drewN m)) ∧ (convert 43 9 (.slice (some ⟨g, 0, none⟩) n cap)).run Tryd.prog w = .ok (.string ⟨xs.toArray⟩) w
      ∧ (convert 43 9 (.slice (some ⟨g, 0, none⟩) n cap)).run Tryd.prog w.drew = .ok (.string ⟨xs.toArray⟩) w.drew ∧ (convert 43 9 (.slice (some ⟨g, 0, none⟩) n cap)).run Tryd.prog w.drew.drew = .ok (.string ⟨xs.toArray⟩) w.drew.drew := by
  subst hn
  rcases own_form h with ⟨_, he⟩ | ⟨g, cap, rfl, hB, hg, hc, hm⟩
  · omega
  · exact ⟨g, cap, rfl, fun m => conv_at h (fun a => World.cell?_drewN _ _ _), conv_at h (fun a => rfl), conv_at h (fun a => World.cell?_drew _ _), conv_at h (fun a => by rw [World.cell?_drew, World.cell?_drew])⟩

set_option maxHeartbeats 1000000 in
set_option maxRecDepth 100000 in
theorem bytesC (i p : Nat) (w : World) (hi : i ≤ 4294967295) (hp : p ≤ 65535) :
    Calls Tryd.prog 12 #[.agg #[.int .u32 i, .int .u16 p]] w fun e w' => e = .returned (.string (bs i p)) ∧ Up w w' := by
  go_enter Tryd.func12, Tryd.ntmps12
  go_upto_region 1 with fail
  have k0 : (w.alloc (.cells #[.int .u32 i, .int .u16 p] 25)).cell? ⟨w.heap.size, 0, none⟩ = some (.int .u32 i) := by go_simp
  have k1 : (w.alloc (.cells #[.int .u32 i, .int .u16 p] 25)).cell? ⟨w.heap.size, 1, none⟩ = some (.int .u16 p) := by go_simp
  have hu : Up w (w.alloc (.cells #[.int .u32 i, .int .u16 p] 25)) := up_al _ (Below.refl _ _)
  have hz : w.heap.size + 1 ≤ (w.alloc (.cells #[.int .u32 i, .int .u16 p] 25)).heap.size := by simp
  generalize (w.alloc (.cells #[.int .u32 i, .int .u16 p] 25)) = w0 at k0 k1 hu hz ⊢
  go_region_with (first
    | (go_at_call 26; refine (lay32 (w.heap.size + 1) (.slice none 0 0) [] i _ hi (OwnB.nil_ _ _) (by simp) (by first | exact hz | simpa using hz)).mono ?_; rintro e w1 ⟨⟨v1, rfl, ho1⟩, hb1⟩; have p0 := (hb1.cell (p := ⟨w.heap.size, 0, none⟩) (Nat.lt_succ_self _)).trans (by first | exact k0 | simpa using k0); have p1 := (hb1.cell (p := ⟨w.heap.size, 1, none⟩) (Nat.lt_succ_self _)).trans (by first | exact k1 | simpa using k1); have hz1 := Nat.le_trans (by first | exact hz | simpa using hz) hb1.size; have hu1 : Up w w1 := Below.trans (by repeat (first | assumption | apply up_al | apply up_dr | apply up_drN)) (hb1.mono (Nat.le_succ _)))
    | (go_at_call 22; refine (lay16 (w.heap.size + 1) v1 _ p _ hp (ho1.up (by repeat (first | exact Below.refl _ _ | apply Below.drew | exact below_drewN (Below.refl _ _) _))) (by simp [B32]) (by first | exact hz1 | simpa using hz1)).mono ?_; rintro e w2 ⟨⟨v2, rfl, ho2⟩, hb2⟩; have q0 := (hb2.cell (p := ⟨w.heap.size, 0, none⟩) (Nat.lt_succ_self _)).trans (by first | exact p0 | simpa using p0); have q1 := (hb2.cell (p := ⟨w.heap.size, 1, none⟩) (Nat.lt_succ_self _)).trans (by first | exact p1 | simpa using p1); have hu2 : Up w w2 := Below.trans (by repeat (first | assumption | apply up_al | apply up_dr | apply up_drN)) (hb2.mono (Nat.le_succ _)); obtain ⟨g, cap, rfl, hcvN, hcv, hcv1, hcv2⟩ := conv_own ho2 6 rfl (by decide)))
  all_goals go_wp2
  all_goals go_ret
  all_goals exact ⟨rfl, (by repeat (first | assumption | apply up_al | apply up_dr | apply up_drN))⟩
end Go.Proofs.YtolebodpcefcfaaDoor.tu
