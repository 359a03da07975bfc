/- H: contracts, part 4. Condition: as each says. -/
import Derived.Test.YtafckmbgefbonaaKBHA38
import Derived.Test.YtafckmbgefbonaaKH2
import Derived.Test.YtafckmbgefbonaaKH3
set_option linter.unusedVariables false
set_option linter.unusedSimpArgs false
namespace Go.Proofs.Ytafckmbgefbonaa.pk
open Go.RowKit Go.Shelf Go.Lib Go.Proofs.Ytafckmbgefbonaa.sm Go.Proofs.Ytafckmbgefbonaa.nb Go.Proofs.Ytafckmbgefbonaa.pm
set_option linter.unusedVariables false

set_option maxHeartbeats 8000000 in
set_option maxRecDepth 100000 in
theorem lawHurt (g : Sg) (A : Option Addr) (n c : Nat) (bit : Nat) (w : World) (hg : SegX w g A n) (hbit : bit ≤ 65535) :
    Calls Try.prog 4 #[SGV g A n c, .int .u16 bit] w fun e_ w' => e_ = .returned (.bool true) ∧ Up w w' := by
  have HG := Lib.hid hg
  clear hg
  go_enter Try.func4, Try.ntmps4
  go_upto_region 1 with fail
  have hA_1 := Box.new w #[.int .u32 g.sa, .int .u16 g.sp, .int .u32 g.da, .int .u16 g.dp, .int .u32 g.sq, .int .u32 g.ak, .int .u8 g.fl, .int .u16 g.wi, .int .u16 g.op.mss, .int .i64 g.op.sc, .bool g.op.sk, .slice A n c, .bool g.op.tm, .int .u32 g.op.va, .int .u32 g.op.ec, .string (tx g.dt)] 30
  have hv1 : Up w (w.alloc (.cells #[.int .u32 g.sa, .int .u16 g.sp, .int .u32 g.da, .int .u16 g.dp, .int .u32 g.sq, .int .u32 g.ak, .int .u8 g.fl, .int .u16 g.wi, .int .u16 g.op.mss, .int .i64 g.op.sc, .bool g.op.sk, .slice A n c, .bool g.op.tm, .int .u32 g.op.va, .int .u32 g.op.ec, .string (tx g.dt)] 30)) := (up_al _ (Below.refl _ _))
  generalize (w.alloc (.cells #[.int .u32 g.sa, .int .u16 g.sp, .int .u32 g.da, .int .u16 g.dp, .int .u32 g.sq, .int .u32 g.ak, .int .u8 g.fl, .int .u16 g.wi, .int .u16 g.op.mss, .int .i64 g.op.sc, .bool g.op.sk, .slice A n c, .bool g.op.tm, .int .u32 g.op.va, .int .u32 g.op.ec, .string (tx g.dt)] 30)) = w1 at hA_1 hv1 ⊢
  generalize w.heap.size = n0 at hA_1 ⊢
  have hu1 := hv1
  clear hv1
  have k0 := hA_1.at 0 rfl; have k1 := hA_1.at 1 rfl; have k2 := hA_1.at 2 rfl; have k3 := hA_1.at 3 rfl; have k4 := hA_1.at 4 rfl; have k5 := hA_1.at 5 rfl; have k6 := hA_1.at 6 rfl; have k7 := hA_1.at 7 rfl; have k8 := hA_1.at 8 rfl; have k9 := hA_1.at 9 rfl; have k10 := hA_1.at 10 rfl; have k11 := hA_1.at 11 rfl; have k12 := hA_1.at 12 rfl; have k13 := hA_1.at 13 rfl; have k14 := hA_1.at 14 rfl; have k15 := hA_1.at 15 rfl
  go_wp2_with fail
  refine (heavyV w1 ((HG.out.up hu1).seg c)).mono ?_
  rintro e_ w2 ⟨rfl, hv2⟩
  clear k0 k1 k2 k3 k4 k5 k6 k7 k8 k9 k10 k11 k12 k13 k14 k15
  have hu2 := hu1.on hv2
  have hA_2 := hA_1.up hv2
  clear hA_1 hu1 hv2
  by_cases c0 : heavy g = true
  · rw [c0]
    go_wp2_with fail
    refine (aliveC w2).mono ?_
    rintro e_ w3 ⟨rfl, hv3⟩
    have hu3 := hu2.on hv3
    have hA_3 := hA_2.up hv3
    clear hA_2 hu2 hv3
    go_wp2
    go_ret
    exact ⟨rfl, hu3⟩
  · have c0' : heavy g = false := by simpa using c0
    rw [c0']
    have hh : g.dt.length ≤ 4096 ∧ g.op.bl.length ≤ 100 := by unfold heavy at c0'; simp at c0'; omega
    have gg := HG.out.good hh.1 hh.2
    have H1 := Lib.hid (fun w (h : SegV w (SGV g A n c) g) => encV w h gg)
    by_cases hm : MayS g
    case neg =>
      rw [EVP_no hm] at H1
      have k0 := hA_2.at 0 rfl; have k1 := hA_2.at 1 rfl; have k2 := hA_2.at 2 rfl; have k3 := hA_2.at 3 rfl; have k4 := hA_2.at 4 rfl; have k5 := hA_2.at 5 rfl; have k6 := hA_2.at 6 rfl; have k7 := hA_2.at 7 rfl; have k8 := hA_2.at 8 rfl; have k9 := hA_2.at 9 rfl; have k10 := hA_2.at 10 rfl; have k11 := hA_2.at 11 rfl; have k12 := hA_2.at 12 rfl; have k13 := hA_2.at 13 rfl; have k14 := hA_2.at 14 rfl; have k15 := hA_2.at 15 rfl
      go_wp2_with fail
      refine (H1.out w2 ((HG.out.up hu2).seg c)).mono ?_
      rintro e_ w3 ⟨rfl, hv3⟩
      clear k0 k1 k2 k3 k4 k5 k6 k7 k8 k9 k10 k11 k12 k13 k14 k15
      have hu3 := hu2.on hv3
      have hA_3 := hA_2.up hv3
      clear hA_2 hu2 hv3
      go_wp2_with fail
      refine (aliveC w3).mono ?_
      rintro e_ w4 ⟨rfl, hv4⟩
      have hu4 := hu3.on hv4
      have hA_4 := hA_3.up hv4
      clear hA_3 hu3 hv4
      go_wp2
      go_ret
      exact ⟨rfl, hu4⟩
    case pos =>
      rw [EVP_ok hm] at H1
      obtain ⟨S, hS⟩ : ∃ S, S = tx (encS g) := ⟨_, rfl⟩
      rw [← hS] at H1
      obtain ⟨N, hN⟩ : ∃ N, N = S.size := ⟨_, rfl⟩
      have hLS : L S = encS g := by rw [hS, L_tx]
      have hlen : (encS g).length = N := by rw [hN, hS, tx_size]
      have h40 : 40 ≤ N := by rw [← hlen, enc_len]; omega
      have hN2 : N ≤ 1048576 := by rw [← hlen, enc_len]; have := raw40 hm; have := hm.2.2; omega
      have hne : S.toList.isEmpty = false := by
        rw [ByteArray.toList_eq]
        cases h0 : S.data.toList with
        | nil =>
          have e1 : S.data.toList.length = N := by rw [hN]; exact L_len S
          rw [h0] at e1
          have e2 : ([] : List UInt8).length = 0 := rfl
          omega
        | cons a b => rfl
      obtain ⟨k, hk⟩ : ∃ k, k = bit % (8 * N) := ⟨_, rfl⟩
      have hk1 : k < 8 * N := by rw [hk]; exact Nat.mod_lt _ (by omega)
      have hkI : (bit : Int) % (8 * (N : Int)) = (k : Int) := by rw [hk]; simp
      have hkT : Int.tmod (bit : Int) (8 * (N : Int)) = (k : Int) := by rw [Int.tmod_eq_emod_of_nonneg (by omega)]; exact hkI
      obtain ⟨j, hj⟩ : ∃ j, j = k / 8 := ⟨_, rfl⟩
      have hj1 : j < N := by omega
      have hjI : (k : Int) / 8 = (j : Int) := by omega
      have hjT : Int.tdiv (k : Int) 8 = (j : Int) := by rw [Int.tdiv_eq_ediv_of_nonneg (by omega)]; exact hjI
      obtain ⟨m, hmk⟩ : ∃ m, m = k % 8 := ⟨_, rfl⟩
      have hm1 : m < 8 := by omega
      have hmI : (k : Int) % 8 = (m : Int) := by omega
      have hmT : Int.tmod (k : Int) 8 = (m : Int) := by rw [Int.tmod_eq_emod_of_nonneg (by omega)]; exact hmI
      have hjS : j < S.size := by omega
      obtain ⟨u, hu⟩ : ∃ u : Nat, (u : Int) = bt (L S) j := ⟨(bt (L S) j).toNat, by have := bt_bd (L S) j; omega⟩
      have hu1 : u ≤ 255 := by have := bt_bd (L S) j; omega
      obtain ⟨v, hv1, hv, hvb⟩ := flip8 u m hu1 hm1
      have hnx : (nums S).getD j 0 = (u : Int) := by rw [nums_at S j hjS, hu]
      obtain ⟨R, hR⟩ : ∃ R, R = strOfNums ((nums S).set j v) := ⟨_, rfl⟩
      have hLR : L R = (L S).set j (UInt8.ofNat v) := by rw [hR]; exact set_str1 S j v hv1
      have zR : R.size = N := by rw [← L_len, hLR, List.length_set, L_len, hN]
      have hvN : (UInt8.ofNat v).toNat = v := by rw [UInt8.toNat_ofNat']; omega
      have herr : errP (L R) ≠ 0 := by
        rw [hLR, hLS]
        refine enc_hurt hm HG.out.wf j (UInt8.ofNat v) (by omega) ⟨m, hm1, ?_⟩
        rw [hvN, ← hLS, ← hu]; exact hvb
      have HDR := Lib.hid (fun w => decodeC R w (by omega))
      rw [decP_bad herr] at HDR
      generalize errP (L R) = E at HDR herr
      have hE : ¬ (E : Int) = 0 := by omega
      have HT := Lib.hid hR
      have zS : S.size = N := hN.symm
      have wN : IntKind.i64.wrap (8 * (N : Int)) = 8 * (N : Int) := IntWalk.i64_in _ (by omega)
      have wk : IntKind.i64.wrap (k : Int) = (k : Int) := IntWalk.i64_in _ (by omega)
      have wj : IntKind.i64.wrap (j : Int) = (j : Int) := IntWalk.i64_in _ (by omega)
      have wm : IntKind.i64.wrap (m : Int) = (m : Int) := IntWalk.i64_in _ (by omega)
      have wb : IntKind.i64.wrap (bit : Int) = (bit : Int) := IntWalk.i64_in _ (by omega)
      have n8 : ¬ 8 * (N : Int) = 0 := by omega
      have jlt : (j : Int) < (N : Int) := by omega
      clear hS hLS hlen hk hj hmk hu hvb hLR hvN hR hN herr c0 c0' hh hu1
      have k0 := hA_2.at 0 rfl; have k1 := hA_2.at 1 rfl; have k2 := hA_2.at 2 rfl; have k3 := hA_2.at 3 rfl; have k4 := hA_2.at 4 rfl; have k5 := hA_2.at 5 rfl; have k6 := hA_2.at 6 rfl; have k7 := hA_2.at 7 rfl; have k8 := hA_2.at 8 rfl; have k9 := hA_2.at 9 rfl; have k10 := hA_2.at 10 rfl; have k11 := hA_2.at 11 rfl; have k12 := hA_2.at 12 rfl; have k13 := hA_2.at 13 rfl; have k14 := hA_2.at 14 rfl; have k15 := hA_2.at 15 rfl
      go_wp2_with fail
      refine (H1.out w2 ((HG.out.up hu2).seg c)).mono ?_
      rintro e_ w3 ⟨rfl, hv3⟩
      clear k0 k1 k2 k3 k4 k5 k6 k7 k8 k9 k10 k11 k12 k13 k14 k15
      have hu3 := hu2.on hv3
      have hA_3 := hA_2.up hv3
      clear hA_2 hu2 hv3
      obtain ⟨cap, W, hcv, hUW, hRow⟩ := conv_in S w3
      rw [zS] at hcv
      have U3 := hu3.on hUW
      have hrg := (hRow j (by rw [nums_len]; exact hjS))
      rw [hnx] at hrg
      obtain ⟨d1, f1⟩ := hrg
      go_upto_region 9 with fail
      have hR1 := hRow.set j (v : Int) (by rw [nums_len]; exact hjS)
      have U4 : Up w (W.setCell ⟨w3.heap.size, j, none⟩ (.int .u8 (v : Int))) := up_set U3 hu3.size
      generalize W.setCell ⟨w3.heap.size, j, none⟩ (.int .u8 (v : Int)) = w4x at hR1 U4 ⊢
      have hbk := row_back0 hR1 N cap (by rw [List.length_set, nums_len, zS])
      rw [← HT.out] at hbk
      clear hcv hUW hRow U3 d1 f1 hR1 hu3 hv
      generalize w3.heap.size = n2 at hbk ⊢
      go_wp2_with fail
      refine (HDR.out _).mono ?_
      rintro e_ w5x ⟨X, rfl, ⟨A5, n5, c5, rfl, _, _⟩, hv5⟩
      go_upto_region 10 with fail
      have U5 := U4.on hv5
      generalize hzz : World.alloc w5x _ = w6x
      have U6 : Up w w6x := hzz ▸ up_al _ U5
      clear hzz hbk U4 hv5
      go_wp2_with fail
      refine (aliveC _).mono ?_
      rintro e_ w7x ⟨rfl, hv7⟩
      go_wp2
      go_ret
      exact ⟨ret_bool (by first | rfl | (simp; omega) | simp [hE]), U6.on hv7⟩
end Go.Proofs.Ytafckmbgefbonaa.pk

namespace Go.Proofs.Ytafckmbgefbonaa.pk
open Go.RowKit Go.Shelf Go.Lib Go.Proofs.Ytafckmbgefbonaa.sm Go.Proofs.Ytafckmbgefbonaa.nb Go.Proofs.Ytafckmbgefbonaa.pm
set_option linter.unusedVariables false

theorem lawHurtI (g : Sg) (A : Option Addr) (n c : Nat) (bit : Int) (w : World) (hg : SegX w g A n) (hbit : 0 ≤ bit ∧ bit ≤ 65535) :
    Calls Try.prog 4 #[SGV g A n c, .int .u16 bit] w fun e_ w' => e_ = .returned (.bool true) ∧ Up w w' := by
  obtain ⟨b, rfl⟩ := Int.eq_ofNat_of_zero_le hbit.1
  exact lawHurt g A n c b w hg (by omega)
end Go.Proofs.Ytafckmbgefbonaa.pk
