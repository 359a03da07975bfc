/- B H A: contracts, part 32. Condition: as each says. -/
import Derived.Test.YtafckmbgefbonaaKBHA16
import Derived.Test.YtafckmbgefbonaaKBHA27
import Derived.Test.YtafckmbgefbonaaKBHA29
set_option linter.unusedVariables false
set_option linter.unusedSimpArgs false
namespace Go.Proofs.Ytafckmbgefbonaa.pk
open Go.RowKit Go.Shelf Go.Lib Go.Proofs.Ytafckmbgefbonaa.sm Go.Proofs.Ytafckmbgefbonaa.nb Go.Proofs.Ytafckmbgefbonaa.pm
set_option linter.unusedVariables false

set_option maxHeartbeats 8000000 in
set_option maxRecDepth 100000 in
theorem ldec6 (s Y o D : ByteArray) (a b p q sq ak f wi : Nat) (T S I ur : Int) (d : Bool) (w : World) (HI : ∀ w, Calls Try.prog 20 #[.string s] w fun e w' => e = .returned (.tuple #[ip.HV (a : Nat) (b : Nat) 6 T S I d, .string Y, .int .i64 0]) ∧ Up w w') (HT : ∀ w, Calls Try.prog 21 #[.int .u32 a, .int .u32 b, .string Y] w fun e w' => e = .returned (.tuple #[tc.HV (p : Nat) (q : Nat) (sq : Nat) (ak : Nat) (f : Nat) (wi : Nat) ur o, .string D, .int .i64 0]) ∧ Up w w') (ho : o.size ≤ 1048576) (hf : f ≤ 255) (he : om.err (L o) = 0) (hg : flg f = true) (hd : ¬ 1460 < D.size) :
    Calls Try.prog 9 #[.string s] w fun e_ w' => DecR 0 ⟨a, b, p, q, sq, ak, f, wi, om.decO (L o), L D⟩ w e_ w' := by
  have HY := Lib.hid HT
  clear HT
  have HE := Lib.hid he
  clear he
  have HF := Lib.hid hg
  clear hg
  have c1 : ¬ (1460 : Int) < (D.size : Int) := by omega
  have HX := Lib.hid HI
  clear HI
  go_enter Try.func9, Try.ntmps9
  go_upto_region 1 with fail
  have hA := Box.new w #[.int .u32 0, .int .u16 0, .int .u32 0, .int .u16 0, .int .u32 0, .int .u32 0, .int .u8 0, .int .u16 0, .int .u16 0, .int .i64 0, .bool false, .slice none 0 0, .bool false, .int .u32 0, .int .u32 0, .string { data := #[] }] 30
  have hu : Up w (w.alloc (.cells #[.int .u32 0, .int .u16 0, .int .u32 0, .int .u16 0, .int .u32 0, .int .u32 0, .int .u8 0, .int .u16 0, .int .u16 0, .int .i64 0, .bool false, .slice none 0 0, .bool false, .int .u32 0, .int .u32 0, .string { data := #[] }] 30)) := up_al _ (Below.refl _ _)
  generalize (w.alloc (.cells #[.int .u32 0, .int .u16 0, .int .u32 0, .int .u16 0, .int .u32 0, .int .u32 0, .int .u8 0, .int .u16 0, .int .u16 0, .int .i64 0, .bool false, .slice none 0 0, .bool false, .int .u32 0, .int .u32 0, .string { data := #[] }] 30)) = w0 at hA hu ⊢
  obtain ⟨a0, ha0⟩ : ∃ a0, a0 = w.heap.size := ⟨_, rfl⟩
  have hla : w.heap.size ≤ a0 := by omega
  rw [← ha0] at hA ⊢
  clear ha0
  go_wp2_with fail
  refine (HX.out w0).mono ?_
  rintro e w1 ⟨rfl, hv⟩
  clear HX
  have hA1 := hA.up hv
  have hu1 := hu.on hv
  clear hA hu hv
  go_upto_region 2 with fail
  have hag : a0 < w1.heap.size := hA1.1
  have hG2 := Box.new w1 #[.int .u32 a, .int .u32 b, .int .u8 6, .int .u8 T, .int .u8 S, .int .u16 I, .bool d] 57
  have hA2 := hA1.alloc (.cells #[.int .u32 a, .int .u32 b, .int .u8 6, .int .u8 T, .int .u8 S, .int .u16 I, .bool d] 57)
  have hu2 := up_al (.cells #[.int .u32 a, .int .u32 b, .int .u8 6, .int .u8 T, .int .u8 S, .int .u16 I, .bool d] 57) hu1
  generalize (w1.alloc (.cells #[.int .u32 a, .int .u32 b, .int .u8 6, .int .u8 T, .int .u8 S, .int .u16 I, .bool d] 57)) = w2 at hA2 hG2 hu2 ⊢
  generalize w1.heap.size = g0 at hG2 hag ⊢
  clear hA1 hu1 w1
  obtain ⟨gk0, gk1, gk2, gk3, gk4, gk5, gk6, gf0, gf1, gf2, gf3, gf4, gf5, gf6⟩ := ip.Box.c7 hG2
  go_wp2_with fail
  refine (HY.out w2).mono ?_
  rintro e w3 ⟨rfl, hv⟩
  clear HY
  clear gk0 gf0 gk1 gf1 gk2 gf2 gk3 gf3 gk4 gf4 gk5 gf5 gk6 gf6
  have hA3 := hA2.up hv
  have hG3 := hG2.up hv
  have hu3 := hu2.on hv
  clear hA2 hG2 hu2 hv w2
  go_upto_region 7 with fail
  have hat : a0 < w3.heap.size := hA3.1
  have hT4 := Box.new w3 #[.int .u16 p, .int .u16 q, .int .u32 sq, .int .u32 ak, .int .u8 f, .int .u16 wi, .int .u16 ur, .string o] 53
  have hA4 := hA3.alloc (.cells #[.int .u16 p, .int .u16 q, .int .u32 sq, .int .u32 ak, .int .u8 f, .int .u16 wi, .int .u16 ur, .string o] 53)
  have hG4 := hG3.alloc (.cells #[.int .u16 p, .int .u16 q, .int .u32 sq, .int .u32 ak, .int .u8 f, .int .u16 wi, .int .u16 ur, .string o] 53)
  have hu4 := up_al (.cells #[.int .u16 p, .int .u16 q, .int .u32 sq, .int .u32 ak, .int .u8 f, .int .u16 wi, .int .u16 ur, .string o] 53) hu3
  generalize (w3.alloc (.cells #[.int .u16 p, .int .u16 q, .int .u32 sq, .int .u32 ak, .int .u8 f, .int .u16 wi, .int .u16 ur, .string o] 53)) = w4 at hA4 hG4 hT4 hu4 ⊢
  generalize w3.heap.size = t0 at hT4 hat ⊢
  clear hA3 hG3 hu3 w3
  have hlt3 : a0 < w4.heap.size := hA4.1
  obtain ⟨tk0, tk1, tk2, tk3, tk4, tk5, tk6, tk7, tf0, tf1, tf2, tf3, tf4, tf5, tf6, tf7⟩ := tc.Box.c8 hT4
  go_wp2_with fail
  refine (op.decNC o w4 ho).mono ?_
  rintro e w6 ⟨x, rfl, hO, hv⟩
  rw [HE.out]
  clear tk0 tf0 tk1 tf1 tk2 tf2 tk3 tf3 tk4 tf4 tk5 tf5 tk6 tf6 tk7 tf7
  have hA6 := hA4.up hv
  have hG6 := hG4.up hv
  have hT6 := hT4.up hv
  have hu6 := hu4.on hv
  clear hA4 hG4 hT4 hu4 hv
  obtain ⟨A, nn, cc, rfl, hl, hr, hfar⟩ := hO
  have hfar2 : ∀ ad, A = some ad → ad.block ≠ a0 := fun ad e => by have := hfar ad e; omega
  clear hfar hlt3
  go_upto_region 10 with fail
  have hr7 := hr.up (up_al (.cells #[.int .u16 ((om.decO (L o)).mss : Nat), .int .i64 (om.decO (L o)).sc, .bool (om.decO (L o)).sk, .slice A nn cc, .bool (om.decO (L o)).tm, .int .u32 ((om.decO (L o)).va : Nat), .int .u32 ((om.decO (L o)).ec : Nat)] 28) (Below.refl _ w6))
  have hP7 := Box.new w6 #[.int .u16 ((om.decO (L o)).mss : Nat), .int .i64 (om.decO (L o)).sc, .bool (om.decO (L o)).sk, .slice A nn cc, .bool (om.decO (L o)).tm, .int .u32 ((om.decO (L o)).va : Nat), .int .u32 ((om.decO (L o)).ec : Nat)] 28
  have hA7 := hA6.alloc (.cells #[.int .u16 ((om.decO (L o)).mss : Nat), .int .i64 (om.decO (L o)).sc, .bool (om.decO (L o)).sk, .slice A nn cc, .bool (om.decO (L o)).tm, .int .u32 ((om.decO (L o)).va : Nat), .int .u32 ((om.decO (L o)).ec : Nat)] 28)
  have hG7 := hG6.alloc (.cells #[.int .u16 ((om.decO (L o)).mss : Nat), .int .i64 (om.decO (L o)).sc, .bool (om.decO (L o)).sk, .slice A nn cc, .bool (om.decO (L o)).tm, .int .u32 ((om.decO (L o)).va : Nat), .int .u32 ((om.decO (L o)).ec : Nat)] 28)
  have hT7 := hT6.alloc (.cells #[.int .u16 ((om.decO (L o)).mss : Nat), .int .i64 (om.decO (L o)).sc, .bool (om.decO (L o)).sk, .slice A nn cc, .bool (om.decO (L o)).tm, .int .u32 ((om.decO (L o)).va : Nat), .int .u32 ((om.decO (L o)).ec : Nat)] 28)
  have hu7 := up_al (.cells #[.int .u16 ((om.decO (L o)).mss : Nat), .int .i64 (om.decO (L o)).sc, .bool (om.decO (L o)).sk, .slice A nn cc, .bool (om.decO (L o)).tm, .int .u32 ((om.decO (L o)).va : Nat), .int .u32 ((om.decO (L o)).ec : Nat)] 28) hu6
  generalize (w6.alloc (.cells #[.int .u16 ((om.decO (L o)).mss : Nat), .int .i64 (om.decO (L o)).sc, .bool (om.decO (L o)).sk, .slice A nn cc, .bool (om.decO (L o)).tm, .int .u32 ((om.decO (L o)).va : Nat), .int .u32 ((om.decO (L o)).ec : Nat)] 28)) = w7 at hr7 hP7 hA7 hG7 hT7 hu7 ⊢
  generalize w6.heap.size = p0 at hP7 ⊢
  clear hA6 hG6 hT6 hu6 hr w6
  obtain ⟨tk0, tk1, tk2, tk3, tk4, tk5, tk6, tk7, tf0, tf1, tf2, tf3, tf4, tf5, tf6, tf7⟩ := tc.Box.c8 hT7
  go_wp2_with fail
  refine (mayFlagsC f w7 hf).mono ?_
  rintro e w8 ⟨rfl, rfl⟩
  rw [HF.out]
  go_upto_region 16 with fail
  have gg := hG7.1
  have tt := hT7.1
  clear tk0 tf0 tk1 tf1 tk2 tf2 tk3 tf3 tk4 tf4 tk5 tf5 tk6 tf6 tk7 tf7
  have g0a := hG7.at 0 rfl; have g1a := hG7.at 1 rfl; have t0a := hT7.at 0 rfl; have t1a := hT7.at 1 rfl
  have hG8 := hG7.alloc (.cells #[.int .u32 0, .int .u16 0] 25); have hT8 := hT7.alloc (.cells #[.int .u32 0, .int .u16 0] 25)
  have g0b := hG8.at 0 rfl; have g1b := hG8.at 1 rfl; have t0b := hT8.at 0 rfl; have t1b := hT8.at 1 rfl
  have hG9 := hG8.alloc (.cells #[.int .u32 0, .int .u16 0] 25); have hT9 := hT8.alloc (.cells #[.int .u32 0, .int .u16 0] 25)
  have g0c := hG9.at 0 rfl; have g1c := hG9.at 1 rfl; have t0c := hT9.at 0 rfl; have t1c := hT9.at 1 rfl
  have gn : ¬ g0 = w7.heap.size := by omega
  have tn : ¬ t0 = w7.heap.size := by omega
  have gn2 : ¬ g0 = w7.heap.size + 1 := by omega
  have tn2 : ¬ t0 = w7.heap.size + 1 := by omega
  go_cut [10, 11] (fun p_ q_ wc => ∃ j i : Nat, p_ = .pointer (some ⟨j, 0, none⟩) ∧ q_ = .pointer (some ⟨i, 0, none⟩) ∧ Box wc j [.int .u32 a, .int .u16 p] ∧ Box wc i [.int .u32 b, .int .u16 q] ∧ op.RdB wc A (om.decO (L o)).bl ∧ Box wc a0 [.int .u32 0, .int .u16 0, .int .u32 0, .int .u16 0, .int .u32 0, .int .u32 0, .int .u8 0, .int .u16 0, .int .u16 0, .int .i64 0, .bool false, .slice none 0 0, .bool false, .int .u32 0, .int .u32 0, .string { data := #[] }] ∧ Box wc t0 [.int .u16 p, .int .u16 q, .int .u32 sq, .int .u32 ak, .int .u8 f, .int .u16 wi, .int .u16 ur, .string o] ∧ Box wc p0 [.int .u16 ((om.decO (L o)).mss : Nat), .int .i64 (om.decO (L o)).sc, .bool (om.decO (L o)).sk, .slice A nn cc, .bool (om.decO (L o)).tm, .int .u32 ((om.decO (L o)).va : Nat), .int .u32 ((om.decO (L o)).ec : Nat)] ∧ Up w wc)
  case first =>
    go_region
    · have m1 := ((Box.new w7 #[.int .u32 a, .int .u16 p] 25).alloc (.cells #[.int .u32 b, .int .u16 q] 25)).drew
      have m2 := (Box.new (w7.alloc (.cells #[.int .u32 a, .int .u16 p] 25)) #[.int .u32 b, .int .u16 q] 25).drew
      rw [World.size_alloc] at m2
      go_wp2
      go_meet
      exact ⟨w7.heap.size, w7.heap.size + 1, rfl, rfl, m1, m2, hr7.up (up_dr (up_al (.cells #[.int .u32 b, .int .u16 q] 25) (up_al (.cells #[.int .u32 a, .int .u16 p] 25) (Below.refl _ w7)))), ((hA7.alloc (.cells #[.int .u32 a, .int .u16 p] 25)).alloc (.cells #[.int .u32 b, .int .u16 q] 25)).drew, ((hT7.alloc (.cells #[.int .u32 a, .int .u16 p] 25)).alloc (.cells #[.int .u32 b, .int .u16 q] 25)).drew, ((hP7.alloc (.cells #[.int .u32 a, .int .u16 p] 25)).alloc (.cells #[.int .u32 b, .int .u16 q] 25)).drew, up_dr (up_al (.cells #[.int .u32 b, .int .u16 q] 25) (up_al (.cells #[.int .u32 a, .int .u16 p] 25) hu7))⟩
    · have m1 := ((Box.new w7 #[.int .u32 b, .int .u16 q] 25).alloc (.cells #[.int .u32 a, .int .u16 p] 25)).drew
      have m2 := (Box.new (w7.alloc (.cells #[.int .u32 b, .int .u16 q] 25)) #[.int .u32 a, .int .u16 p] 25).drew
      rw [World.size_alloc] at m2
      go_wp2
      go_meet
      exact ⟨w7.heap.size + 1, w7.heap.size, rfl, rfl, m2, m1, hr7.up (up_dr (up_al (.cells #[.int .u32 a, .int .u16 p] 25) (up_al (.cells #[.int .u32 b, .int .u16 q] 25) (Below.refl _ w7)))), ((hA7.alloc (.cells #[.int .u32 b, .int .u16 q] 25)).alloc (.cells #[.int .u32 a, .int .u16 p] 25)).drew, ((hT7.alloc (.cells #[.int .u32 b, .int .u16 q] 25)).alloc (.cells #[.int .u32 a, .int .u16 p] 25)).drew, ((hP7.alloc (.cells #[.int .u32 b, .int .u16 q] 25)).alloc (.cells #[.int .u32 a, .int .u16 p] 25)).drew, up_dr (up_al (.cells #[.int .u32 a, .int .u16 p] 25) (up_al (.cells #[.int .u32 b, .int .u16 q] 25) hu7))⟩
  case rest =>
  obtain ⟨j0, i0, rfl, rfl, m1, m2, hr8, hA8, hT8, hP8, hu8⟩ := hcut
  clear hr7 hu7 hA7 hT7 hG7 hP7 gg tt g0a g1a t0a t1a hG8 g0b g1b t0b t1b hG9 hT9 g0c g1c t0c t1c gn tn gn2 tn2
  generalize wc = w8 at m1 m2 hr8 hA8 hT8 hP8 hu8 ⊢
  have i0_ := m1.at 0 rfl; have i1_ := m1.at 1 rfl; have i2_ := m2.at 0 rfl; have i3_ := m2.at 1 rfl
  have tk2 := hT8.at 2 rfl; have tk3 := hT8.at 3 rfl; have tk4 := hT8.at 4 rfl; have tk5 := hT8.at 5 rfl
  have pk0 := hP8.at 0 rfl; have pk1 := hP8.at 1 rfl; have pk2 := hP8.at 2 rfl; have pk3 := hP8.at 3 rfl; have pk4 := hP8.at 4 rfl; have pk5 := hP8.at 5 rfl; have pk6 := hP8.at 6 rfl
  obtain ⟨ak0, ak1, ak2, ak3, ak4, ak5, ak6, ak7, ak8, ak9, ak10, ak11, ak12, ak13, ak14, ak15, af0, af1, af2, af3, af4, af5, af6, af7, af8, af9, af10, af11, af12, af13, af14, af15⟩ := Box.c16 hA8
  go_wp2_with fail
  have hA9 := put16 hA8 (.int .u32 a) (.int .u16 p) (.int .u32 b) (.int .u16 q) (.int .u32 sq) (.int .u32 ak) (.int .u8 f) (.int .u16 wi) (.int .u16 ((om.decO (L o)).mss : Nat)) (.int .i64 (om.decO (L o)).sc) (.bool (om.decO (L o)).sk) (.slice A nn cc) (.bool (om.decO (L o)).tm) (.int .u32 ((om.decO (L o)).va : Nat)) (.int .u32 ((om.decO (L o)).ec : Nat)) (.string D)
  have hu9 := ups16 (b := a0) hu8 hla (.int .u32 a) (.int .u16 p) (.int .u32 b) (.int .u16 q) (.int .u32 sq) (.int .u32 ak) (.int .u8 f) (.int .u16 wi) (.int .u16 ((om.decO (L o)).mss : Nat)) (.int .i64 (om.decO (L o)).sc) (.bool (om.decO (L o)).sk) (.slice A nn cc) (.bool (om.decO (L o)).tm) (.int .u32 ((om.decO (L o)).va : Nat)) (.int .u32 ((om.decO (L o)).ec : Nat)) (.string D)
  have hrr := rd16 hr8 hfar2 (.int .u32 a) (.int .u16 p) (.int .u32 b) (.int .u16 q) (.int .u32 sq) (.int .u32 ak) (.int .u8 f) (.int .u16 wi) (.int .u16 ((om.decO (L o)).mss : Nat)) (.int .i64 (om.decO (L o)).sc) (.bool (om.decO (L o)).sk) (.slice A nn cc) (.bool (om.decO (L o)).tm) (.int .u32 ((om.decO (L o)).va : Nat)) (.int .u32 ((om.decO (L o)).ec : Nat)) (.string D)
  generalize World.setCell _ ⟨a0, 15, none⟩ _ = w9 at hA9 hu9 hrr ⊢
  clear ak0 af0 ak1 af1 ak2 af2 ak3 af3 ak4 af4 ak5 af5 ak6 af6 ak7 af7 ak8 af8 ak9 af9 ak10 af10 ak11 af11 ak12 af12 ak13 af13 ak14 af14 ak15 af15
  obtain ⟨ak0, ak1, ak2, ak3, ak4, ak5, ak6, ak7, ak8, ak9, ak10, ak11, ak12, ak13, ak14, ak15, af0, af1, af2, af3, af4, af5, af6, af7, af8, af9, af10, af11, af12, af13, af14, af15⟩ := Box.c16 hA9
  (try simp only [Exit.inBlock, Exit.then])
  refine bodyPost_ret (v := .tuple #[SA a p b q sq ak f wi (om.decO (L o)).mss (om.decO (L o)).sc (om.decO (L o)).sk A nn cc (om.decO (L o)).tm (om.decO (L o)).va (om.decO (L o)).ec D, .int .i64 0]) ?_ rfl ⟨_, rfl, ⟨A, nn, cc, by rw [tx_L], hl, hrr⟩, hu9⟩
  rw [results_cell_tmp rfl]; go_simp

end Go.Proofs.Ytafckmbgefbonaa.pk
