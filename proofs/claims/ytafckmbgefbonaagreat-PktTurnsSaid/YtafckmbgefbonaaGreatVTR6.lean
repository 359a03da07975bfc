/- T R: contracts, part 6. Condition: as each says. -/
import Derived.Test.YtafckmbgefbonaaGreatVTR2
import Derived.Test.YtafckmbgefbonaaGreatVTR5
import Derived.Test.YtafckmbgefbonaaGreatVTRW27
set_option linter.unusedVariables false
set_option linter.unusedSimpArgs false
set_option maxRecDepth 100000
set_option maxHeartbeats 8000000
namespace Go.Proofs.YtafckmbgefbonaaGreat.pk
open RowKit Shelf Lib sm nb pm

theorem decode2 (s o D : ByteArray) (a b p q sq ak f wi : Nat) (P T S I ur : Int) (d : Bool) (w : World) (HH : ∀ w, Calls Tryz.prog 39 #[.string s] w fun e w' => e = .returned (.tuple #[ip.HV (a : Nat) (b : Nat) P T S I d, tc.HV (p : Nat) (q : Nat) (sq : Nat) (ak : Nat) (f : Nat) (wi : Nat) ur o, .string D, .int .i64 0]) ∧ Up w w') (ho : o.size ≤ 1048576) (hf : f ≤ 255) (he : om.err (L o) = 0) (hg : flg f = false) :
  Calls Tryz.prog 17 #[.string s] w fun e_ w' => DecR 81 zeroS w e_ w' := by
 have HE := Lib.hid he
 clear he
 have HF := Lib.hid hg
 clear hg
 have HX := Lib.hid HH
 clear HH
 go_enter Tryz.func17, Tryz.ntmps17
 go_upto_region 1 with fail
 have hA := Box.new w #[.int .u32 0, .int .u16 0, .int .u32 0, .int .u16 0, .int .u32 0, .int .u32 0, .int .u8 0, .int .u16 0, .int .u16 0, .int .i64 0, .bool false, .slice none 0 0, .bool false, .int .u32 0, .int .u32 0, .string { data := #[] }] 30
 have hu : Up w (w.alloc (.cells #[.int .u32 0, .int .u16 0, .int .u32 0, .int .u16 0, .int .u32 0, .int .u32 0, .int .u8 0, .int .u16 0, .int .u16 0, .int .i64 0, .bool false, .slice none 0 0, .bool false, .int .u32 0, .int .u32 0, .string { data := #[] }] 30)) := up_al _ bR
 generalize (w.alloc (.cells #[.int .u32 0, .int .u16 0, .int .u32 0, .int .u16 0, .int .u32 0, .int .u32 0, .int .u8 0, .int .u16 0, .int .u16 0, .int .i64 0, .bool false, .slice none 0 0, .bool false, .int .u32 0, .int .u32 0, .string { data := #[] }] 30)) = w0 at hA hu ⊢
 obtain ⟨a0, ha0⟩ : ∃ a0, a0 = w.heap.size := ⟨_, rfl⟩
 have hla : w.heap.size ≤ a0 := by omega
 rw [← ha0] at hA ⊢
 clear ha0
 go_wp2_with fail
 refine (HX.out w0).mono ?_
 rintro e w1 ⟨rfl, hv⟩
 clear HX
 have hA1 := hA.up hv
 have hu1 := hu.on hv
 clear hA hu hv
 go_upto_region 2 with fail
 have hag : a0 < w1.heap.size := hA1.1
 have hG := Box.new w1 #[.int .u32 a, .int .u32 b, .int .u8 P, .int .u8 T, .int .u8 S, .int .u16 I, .bool d] 59
 have hA2 := alN hG hA1
 have hu2 := upM hG hu1
 have hz := szN hG
 generalize World.alloc w1 _ = w2 at hA2 hG hu2 hz ⊢
 obtain ⟨g0, hg0⟩ : ∃ g0, g0 = w1.heap.size := ⟨_, rfl⟩
 rw [← hg0] at hG hag hz ⊢
 have hT := Box.new w2 #[.int .u16 p, .int .u16 q, .int .u32 sq, .int .u32 ak, .int .u8 f, .int .u16 wi, .int .u16 ur, .string o] 55
 have hA3 := alN hT hA2
 have hG3 := alN hT hG
 have hu3 := upM hT hu2
 rw [hz] at hT
 generalize World.alloc w2 _ = w3 at hA3 hG3 hT hu3 ⊢
 clear hA1 hA2 hG hu1 hu2 hz hg0 w1 w2
 have hlt3 : a0 < w3.heap.size := hA3.1
 obtain ⟨tk0, tk1, tk2, tk3, tk4, tk5, tk6, tk7, tf0, tf1, tf2, tf3, tf4, tf5, tf6, tf7⟩ := tc.Box.c8 hT
 go_wp2_with fail
 refine (op.refDecodeN o w3 ho).mono ?_
 rintro e w6 ⟨x, rfl, hO, hv⟩
 rw [HE.out]
 clear tk0 tf0 tk1 tf1 tk2 tf2 tk3 tf3 tk4 tf4 tk5 tf5 tk6 tf6 tk7 tf7
 have hA4 := hA3.up hv
 have hG4 := hG3.up hv
 have hT4 := hT.up hv
 have hu4 := hu3.on hv
 clear hA3 hG3 hT hu3 hv
 obtain ⟨A, nn, cc, rfl, hl, hr, hfar⟩ := hO
 have hfar2 : ∀ ad, A = some ad → ad.block ≠ a0 := fun ad e => by have := hfar ad e; omega
 go_upto_region 5 with fail
 have hr7 := hr.up (up_al (.cells #[.int .u16 ((om.decO (L o)).mss : Nat), .int .i64 (om.decO (L o)).sc, .bool (om.decO (L o)).sk, .slice A nn cc, .bool (om.decO (L o)).tm, .int .u32 ((om.decO (L o)).va : Nat), .int .u32 ((om.decO (L o)).ec : Nat)] 28) (Below.refl _ w6))
 have hP7 := Box.new w6 #[.int .u16 ((om.decO (L o)).mss : Nat), .int .i64 (om.decO (L o)).sc, .bool (om.decO (L o)).sk, .slice A nn cc, .bool (om.decO (L o)).tm, .int .u32 ((om.decO (L o)).va : Nat), .int .u32 ((om.decO (L o)).ec : Nat)] 28
 have hA7 := alN hP7 hA4
 have hG7 := alN hP7 hG4
 have hT7 := alN hP7 hT4
 have hu7 := upM hP7 hu4
 generalize World.alloc w6 _ = w7 at hr7 hP7 hA7 hG7 hT7 hu7 ⊢
 generalize w6.heap.size = p0 at hP7 ⊢
 clear hA4 hG4 hT4 hu4 hr w6
 obtain ⟨tk0, tk1, tk2, tk3, tk4, tk5, tk6, tk7, tf0, tf1, tf2, tf3, tf4, tf5, tf6, tf7⟩ := tc.Box.c8 hT7
 go_wp2_with fail
 refine (refFlags f w7 hf).mono ?_
 rintro e w8 ⟨rfl, hv⟩
 rw [HF.out]
 clear tk0 tf0 tk1 tf1 tk2 tf2 tk3 tf3 tk4 tf4 tk5 tf5 tk6 tf6 tk7 tf7
 have hA8 := hA7.up hv
 have hG8 := hG7.up hv
 have hT8 := hT7.up hv
 have hP8 := hP7.up hv
 have hr8 := hr7.up hv
 have hu8 := hu7.on hv
 clear hA7 hG7 hT7 hP7 hr7 hu7 hv
 obtain ⟨ak0, ak1, ak2, ak3, ak4, ak5, ak6, ak7, ak8, ak9, ak10, ak11, ak12, ak13, ak14, ak15, af0, af1, af2, af3, af4, af5, af6, af7, af8, af9, af10, af11, af12, af13, af14, af15⟩ := Box.c16 hA8
 go_wp2_with fail
 have hA9 := put16 hA8 (.int .u32 0) (.int .u16 0) (.int .u32 0) (.int .u16 0) (.int .u32 0) (.int .u32 0) (.int .u8 0) (.int .u16 0) (.int .u16 0) (.int .i64 0) (.bool false) (.slice none 0 0) (.bool false) (.int .u32 0) (.int .u32 0) (.string { data := #[] })
 have hu9 := ups16 (b := a0) hu8 hla (.int .u32 0) (.int .u16 0) (.int .u32 0) (.int .u16 0) (.int .u32 0) (.int .u32 0) (.int .u8 0) (.int .u16 0) (.int .u16 0) (.int .i64 0) (.bool false) (.slice none 0 0) (.bool false) (.int .u32 0) (.int .u32 0) (.string { data := #[] })
 generalize World.setCell _ ⟨a0, 15, none⟩ _ = w9 at hA9 hu9 ⊢
 clear ak0 af0 ak1 af1 ak2 af2 ak3 af3 ak4 af4 ak5 af5 ak6 af6 ak7 af7 ak8 af8 ak9 af9 ak10 af10 ak11 af11 ak12 af12 ak13 af13 ak14 af14 ak15 af15
 obtain ⟨ak0, ak1, ak2, ak3, ak4, ak5, ak6, ak7, ak8, ak9, ak10, ak11, ak12, ak13, ak14, ak15, af0, af1, af2, af3, af4, af5, af6, af7, af8, af9, af10, af11, af12, af13, af14, af15⟩ := Box.c16 hA9
 (try simp only [Exit.inBlock, Exit.then])
 refine bodyPost_ret (v := .tuple #[SA 0 0 0 0 0 0 0 0 0 0 false none 0 0 false 0 0 { data := #[] }, .int .i64 81]) ?_ rfl (DecR.bad (n := 81) hu9)
 rw [results_cell_tmp rfl]; go_simp

theorem decode3 (s o D : ByteArray) (a b p q sq ak f wi : Nat) (P T S I ur : Int) (d : Bool) (w : World) (HH : ∀ w, Calls Tryz.prog 39 #[.string s] w fun e w' => e = .returned (.tuple #[ip.HV (a : Nat) (b : Nat) P T S I d, tc.HV (p : Nat) (q : Nat) (sq : Nat) (ak : Nat) (f : Nat) (wi : Nat) ur o, .string D, .int .i64 0]) ∧ Up w w') (ho : o.size ≤ 1048576) (hf : f ≤ 255) (he : om.err (L o) = 0) (hg : flg f = true) (hd : 1460 < D.size) :
  Calls Tryz.prog 17 #[.string s] w fun e_ w' => DecR 4 zeroS w e_ w' := by
 have HE := Lib.hid he
 clear he
 have HF := Lib.hid hg
 clear hg
 have c1 : (1460 : Int) < (D.size : Int) := by omega
 have HX := Lib.hid HH
 clear HH
 go_enter Tryz.func17, Tryz.ntmps17
 go_upto_region 1 with fail
 have hA := Box.new w #[.int .u32 0, .int .u16 0, .int .u32 0, .int .u16 0, .int .u32 0, .int .u32 0, .int .u8 0, .int .u16 0, .int .u16 0, .int .i64 0, .bool false, .slice none 0 0, .bool false, .int .u32 0, .int .u32 0, .string { data := #[] }] 30
 have hu : Up w (w.alloc (.cells #[.int .u32 0, .int .u16 0, .int .u32 0, .int .u16 0, .int .u32 0, .int .u32 0, .int .u8 0, .int .u16 0, .int .u16 0, .int .i64 0, .bool false, .slice none 0 0, .bool false, .int .u32 0, .int .u32 0, .string { data := #[] }] 30)) := up_al _ bR
 generalize (w.alloc (.cells #[.int .u32 0, .int .u16 0, .int .u32 0, .int .u16 0, .int .u32 0, .int .u32 0, .int .u8 0, .int .u16 0, .int .u16 0, .int .i64 0, .bool false, .slice none 0 0, .bool false, .int .u32 0, .int .u32 0, .string { data := #[] }] 30)) = w0 at hA hu ⊢
 obtain ⟨a0, ha0⟩ : ∃ a0, a0 = w.heap.size := ⟨_, rfl⟩
 have hla : w.heap.size ≤ a0 := by omega
 rw [← ha0] at hA ⊢
 clear ha0
 go_wp2_with fail
 refine (HX.out w0).mono ?_
 rintro e w1 ⟨rfl, hv⟩
 clear HX
 have hA1 := hA.up hv
 have hu1 := hu.on hv
 clear hA hu hv
 go_upto_region 2 with fail
 have hag : a0 < w1.heap.size := hA1.1
 have hG := Box.new w1 #[.int .u32 a, .int .u32 b, .int .u8 P, .int .u8 T, .int .u8 S, .int .u16 I, .bool d] 59
 have hA2 := alN hG hA1
 have hu2 := upM hG hu1
 have hz := szN hG
 generalize World.alloc w1 _ = w2 at hA2 hG hu2 hz ⊢
 obtain ⟨g0, hg0⟩ : ∃ g0, g0 = w1.heap.size := ⟨_, rfl⟩
 rw [← hg0] at hG hag hz ⊢
 have hT := Box.new w2 #[.int .u16 p, .int .u16 q, .int .u32 sq, .int .u32 ak, .int .u8 f, .int .u16 wi, .int .u16 ur, .string o] 55
 have hA3 := alN hT hA2
 have hG3 := alN hT hG
 have hu3 := upM hT hu2
 rw [hz] at hT
 generalize World.alloc w2 _ = w3 at hA3 hG3 hT hu3 ⊢
 clear hA1 hA2 hG hu1 hu2 hz hg0 w1 w2
 have hlt3 : a0 < w3.heap.size := hA3.1
 obtain ⟨tk0, tk1, tk2, tk3, tk4, tk5, tk6, tk7, tf0, tf1, tf2, tf3, tf4, tf5, tf6, tf7⟩ := tc.Box.c8 hT
 go_wp2_with fail
 refine (op.refDecodeN o w3 ho).mono ?_
 rintro e w6 ⟨x, rfl, hO, hv⟩
 rw [HE.out]
 clear tk0 tf0 tk1 tf1 tk2 tf2 tk3 tf3 tk4 tf4 tk5 tf5 tk6 tf6 tk7 tf7
 have hA4 := hA3.up hv
 have hG4 := hG3.up hv
 have hT4 := hT.up hv
 have hu4 := hu3.on hv
 clear hA3 hG3 hT hu3 hv
 obtain ⟨A, nn, cc, rfl, hl, hr, hfar⟩ := hO
 have hfar2 : ∀ ad, A = some ad → ad.block ≠ a0 := fun ad e => by have := hfar ad e; omega
 go_upto_region 5 with fail
 have hr7 := hr.up (up_al (.cells #[.int .u16 ((om.decO (L o)).mss : Nat), .int .i64 (om.decO (L o)).sc, .bool (om.decO (L o)).sk, .slice A nn cc, .bool (om.decO (L o)).tm, .int .u32 ((om.decO (L o)).va : Nat), .int .u32 ((om.decO (L o)).ec : Nat)] 28) (Below.refl _ w6))
 have hP7 := Box.new w6 #[.int .u16 ((om.decO (L o)).mss : Nat), .int .i64 (om.decO (L o)).sc, .bool (om.decO (L o)).sk, .slice A nn cc, .bool (om.decO (L o)).tm, .int .u32 ((om.decO (L o)).va : Nat), .int .u32 ((om.decO (L o)).ec : Nat)] 28
 have hA7 := alN hP7 hA4
 have hG7 := alN hP7 hG4
 have hT7 := alN hP7 hT4
 have hu7 := upM hP7 hu4
 generalize World.alloc w6 _ = w7 at hr7 hP7 hA7 hG7 hT7 hu7 ⊢
 generalize w6.heap.size = p0 at hP7 ⊢
 clear hA4 hG4 hT4 hu4 hr w6
 obtain ⟨tk0, tk1, tk2, tk3, tk4, tk5, tk6, tk7, tf0, tf1, tf2, tf3, tf4, tf5, tf6, tf7⟩ := tc.Box.c8 hT7
 go_wp2_with fail
 refine (refFlags f w7 hf).mono ?_
 rintro e w8 ⟨rfl, hv⟩
 rw [HF.out]
 clear tk0 tf0 tk1 tf1 tk2 tf2 tk3 tf3 tk4 tf4 tk5 tf5 tk6 tf6 tk7 tf7
 have hA8 := hA7.up hv
 have hG8 := hG7.up hv
 have hT8 := hT7.up hv
 have hP8 := hP7.up hv
 have hr8 := hr7.up hv
 have hu8 := hu7.on hv
 clear hA7 hG7 hT7 hP7 hr7 hu7 hv
 obtain ⟨ak0, ak1, ak2, ak3, ak4, ak5, ak6, ak7, ak8, ak9, ak10, ak11, ak12, ak13, ak14, ak15, af0, af1, af2, af3, af4, af5, af6, af7, af8, af9, af10, af11, af12, af13, af14, af15⟩ := Box.c16 hA8
 go_wp2_with fail
 have hA9 := put16 hA8 (.int .u32 0) (.int .u16 0) (.int .u32 0) (.int .u16 0) (.int .u32 0) (.int .u32 0) (.int .u8 0) (.int .u16 0) (.int .u16 0) (.int .i64 0) (.bool false) (.slice none 0 0) (.bool false) (.int .u32 0) (.int .u32 0) (.string { data := #[] })
 have hu9 := ups16 (b := a0) hu8 hla (.int .u32 0) (.int .u16 0) (.int .u32 0) (.int .u16 0) (.int .u32 0) (.int .u32 0) (.int .u8 0) (.int .u16 0) (.int .u16 0) (.int .i64 0) (.bool false) (.slice none 0 0) (.bool false) (.int .u32 0) (.int .u32 0) (.string { data := #[] })
 generalize World.setCell _ ⟨a0, 15, none⟩ _ = w9 at hA9 hu9 ⊢
 clear ak0 af0 ak1 af1 ak2 af2 ak3 af3 ak4 af4 ak5 af5 ak6 af6 ak7 af7 ak8 af8 ak9 af9 ak10 af10 ak11 af11 ak12 af12 ak13 af13 ak14 af14 ak15 af15
 obtain ⟨ak0, ak1, ak2, ak3, ak4, ak5, ak6, ak7, ak8, ak9, ak10, ak11, ak12, ak13, ak14, ak15, af0, af1, af2, af3, af4, af5, af6, af7, af8, af9, af10, af11, af12, af13, af14, af15⟩ := Box.c16 hA9
 (try simp only [Exit.inBlock, Exit.then])
 refine bodyPost_ret (v := .tuple #[SA 0 0 0 0 0 0 0 0 0 0 false none 0 0 false 0 0 { data := #[] }, .int .i64 4]) ?_ rfl (DecR.bad (n := 4) hu9)
 rw [results_cell_tmp rfl]; go_simp

theorem decode4 (s o D : ByteArray) (a b p q sq ak f wi : Nat) (P T S I ur : Int) (d : Bool) (w : World) (HH : ∀ w, Calls Tryz.prog 39 #[.string s] w fun e w' => e = .returned (.tuple #[ip.HV (a : Nat) (b : Nat) P T S I d, tc.HV (p : Nat) (q : Nat) (sq : Nat) (ak : Nat) (f : Nat) (wi : Nat) ur o, .string D, .int .i64 0]) ∧ Up w w') (ho : o.size ≤ 1048576) (hf : f ≤ 255) (he : om.err (L o) = 0) (hg : flg f = true) (hd : ¬ 1460 < D.size) :
  Calls Tryz.prog 17 #[.string s] w fun e_ w' => DecR 0 ⟨a, b, p, q, sq, ak, f, wi, om.decO (L o), L D⟩ w e_ w' := by
 have HE := Lib.hid he
 clear he
 have HF := Lib.hid hg
 clear hg
 have c1 : ¬ (1460 : Int) < (D.size : Int) := by omega
 have HX := Lib.hid HH
 clear HH
 go_enter Tryz.func17, Tryz.ntmps17
 go_upto_region 1 with fail
 have hA := Box.new w #[.int .u32 0, .int .u16 0, .int .u32 0, .int .u16 0, .int .u32 0, .int .u32 0, .int .u8 0, .int .u16 0, .int .u16 0, .int .i64 0, .bool false, .slice none 0 0, .bool false, .int .u32 0, .int .u32 0, .string { data := #[] }] 30
 have hu : Up w (w.alloc (.cells #[.int .u32 0, .int .u16 0, .int .u32 0, .int .u16 0, .int .u32 0, .int .u32 0, .int .u8 0, .int .u16 0, .int .u16 0, .int .i64 0, .bool false, .slice none 0 0, .bool false, .int .u32 0, .int .u32 0, .string { data := #[] }] 30)) := up_al _ bR
 generalize (w.alloc (.cells #[.int .u32 0, .int .u16 0, .int .u32 0, .int .u16 0, .int .u32 0, .int .u32 0, .int .u8 0, .int .u16 0, .int .u16 0, .int .i64 0, .bool false, .slice none 0 0, .bool false, .int .u32 0, .int .u32 0, .string { data := #[] }] 30)) = w0 at hA hu ⊢
 obtain ⟨a0, ha0⟩ : ∃ a0, a0 = w.heap.size := ⟨_, rfl⟩
 have hla : w.heap.size ≤ a0 := by omega
 rw [← ha0] at hA ⊢
 clear ha0
 go_wp2_with fail
 refine (HX.out w0).mono ?_
 rintro e w1 ⟨rfl, hv⟩
 clear HX
 have hA1 := hA.up hv
 have hu1 := hu.on hv
 clear hA hu hv
 go_upto_region 2 with fail
 have hag : a0 < w1.heap.size := hA1.1
 have hG := Box.new w1 #[.int .u32 a, .int .u32 b, .int .u8 P, .int .u8 T, .int .u8 S, .int .u16 I, .bool d] 59
 have hA2 := alN hG hA1
 have hu2 := upM hG hu1
 have hz := szN hG
 generalize World.alloc w1 _ = w2 at hA2 hG hu2 hz ⊢
 obtain ⟨g0, hg0⟩ : ∃ g0, g0 = w1.heap.size := ⟨_, rfl⟩
 rw [← hg0] at hG hag hz ⊢
 have hT := Box.new w2 #[.int .u16 p, .int .u16 q, .int .u32 sq, .int .u32 ak, .int .u8 f, .int .u16 wi, .int .u16 ur, .string o] 55
 have hA3 := alN hT hA2
 have hG3 := alN hT hG
 have hu3 := upM hT hu2
 rw [hz] at hT
 generalize World.alloc w2 _ = w3 at hA3 hG3 hT hu3 ⊢
 clear hA1 hA2 hG hu1 hu2 hz hg0 w1 w2
 have hlt3 : a0 < w3.heap.size := hA3.1
 obtain ⟨tk0, tk1, tk2, tk3, tk4, tk5, tk6, tk7, tf0, tf1, tf2, tf3, tf4, tf5, tf6, tf7⟩ := tc.Box.c8 hT
 go_wp2_with fail
 refine (op.refDecodeN o w3 ho).mono ?_
 rintro e w6 ⟨x, rfl, hO, hv⟩
 rw [HE.out]
 clear tk0 tf0 tk1 tf1 tk2 tf2 tk3 tf3 tk4 tf4 tk5 tf5 tk6 tf6 tk7 tf7
 have hA4 := hA3.up hv
 have hG4 := hG3.up hv
 have hT4 := hT.up hv
 have hu4 := hu3.on hv
 clear hA3 hG3 hT hu3 hv
 obtain ⟨A, nn, cc, rfl, hl, hr, hfar⟩ := hO
 have hfar2 : ∀ ad, A = some ad → ad.block ≠ a0 := fun ad e => by have := hfar ad e; omega
 go_upto_region 5 with fail
 have hr7 := hr.up (up_al (.cells #[.int .u16 ((om.decO (L o)).mss : Nat), .int .i64 (om.decO (L o)).sc, .bool (om.decO (L o)).sk, .slice A nn cc, .bool (om.decO (L o)).tm, .int .u32 ((om.decO (L o)).va : Nat), .int .u32 ((om.decO (L o)).ec : Nat)] 28) (Below.refl _ w6))
 have hP7 := Box.new w6 #[.int .u16 ((om.decO (L o)).mss : Nat), .int .i64 (om.decO (L o)).sc, .bool (om.decO (L o)).sk, .slice A nn cc, .bool (om.decO (L o)).tm, .int .u32 ((om.decO (L o)).va : Nat), .int .u32 ((om.decO (L o)).ec : Nat)] 28
 have hA7 := alN hP7 hA4
 have hG7 := alN hP7 hG4
 have hT7 := alN hP7 hT4
 have hu7 := upM hP7 hu4
 generalize World.alloc w6 _ = w7 at hr7 hP7 hA7 hG7 hT7 hu7 ⊢
 generalize w6.heap.size = p0 at hP7 ⊢
 clear hA4 hG4 hT4 hu4 hr w6
 obtain ⟨tk0, tk1, tk2, tk3, tk4, tk5, tk6, tk7, tf0, tf1, tf2, tf3, tf4, tf5, tf6, tf7⟩ := tc.Box.c8 hT7
 go_wp2_with fail
 refine (refFlags f w7 hf).mono ?_
 rintro e w8 ⟨rfl, hv⟩
 rw [HF.out]
 clear tk0 tf0 tk1 tf1 tk2 tf2 tk3 tf3 tk4 tf4 tk5 tf5 tk6 tf6 tk7 tf7
 have hA8 := hA7.up hv
 have hG8 := hG7.up hv
 have hT8 := hT7.up hv
 have hP8 := hP7.up hv
 have hr8 := hr7.up hv
 have hu8 := hu7.on hv
 clear hA7 hG7 hT7 hP7 hr7 hu7 hv
 obtain ⟨tk0, tk1, tk2, tk3, tk4, tk5, tk6, tk7, tf0, tf1, tf2, tf3, tf4, tf5, tf6, tf7⟩ := tc.Box.c8 hT8
 obtain ⟨gk0, gk1, gk2, gk3, gk4, gk5, gk6, gf0, gf1, gf2, gf3, gf4, gf5, gf6⟩ := ip.Box.c7 hG8
 obtain ⟨pk0, pk1, pk2, pk3, pk4, pk5, pk6, pf0, pf1, pf2, pf3, pf4, pf5, pf6⟩ := ip.Box.c7 hP8
 obtain ⟨ak0, ak1, ak2, ak3, ak4, ak5, ak6, ak7, ak8, ak9, ak10, ak11, ak12, ak13, ak14, ak15, af0, af1, af2, af3, af4, af5, af6, af7, af8, af9, af10, af11, af12, af13, af14, af15⟩ := Box.c16 hA8
 go_wp2_with fail
 have hA9 := put16 hA8 (.int .u32 a) (.int .u16 p) (.int .u32 b) (.int .u16 q) (.int .u32 sq) (.int .u32 ak) (.int .u8 f) (.int .u16 wi) (.int .u16 ((om.decO (L o)).mss : Nat)) (.int .i64 (om.decO (L o)).sc) (.bool (om.decO (L o)).sk) (.slice A nn cc) (.bool (om.decO (L o)).tm) (.int .u32 ((om.decO (L o)).va : Nat)) (.int .u32 ((om.decO (L o)).ec : Nat)) (.string D)
 have hu9 := ups16 (b := a0) hu8 hla (.int .u32 a) (.int .u16 p) (.int .u32 b) (.int .u16 q) (.int .u32 sq) (.int .u32 ak) (.int .u8 f) (.int .u16 wi) (.int .u16 ((om.decO (L o)).mss : Nat)) (.int .i64 (om.decO (L o)).sc) (.bool (om.decO (L o)).sk) (.slice A nn cc) (.bool (om.decO (L o)).tm) (.int .u32 ((om.decO (L o)).va : Nat)) (.int .u32 ((om.decO (L o)).ec : Nat)) (.string D)
 have hrr := rd16 hr8 hfar2 (.int .u32 a) (.int .u16 p) (.int .u32 b) (.int .u16 q) (.int .u32 sq) (.int .u32 ak) (.int .u8 f) (.int .u16 wi) (.int .u16 ((om.decO (L o)).mss : Nat)) (.int .i64 (om.decO (L o)).sc) (.bool (om.decO (L o)).sk) (.slice A nn cc) (.bool (om.decO (L o)).tm) (.int .u32 ((om.decO (L o)).va : Nat)) (.int .u32 ((om.decO (L o)).ec : Nat)) (.string D)
 generalize World.setCell _ ⟨a0, 15, none⟩ _ = w9 at hA9 hu9 hrr ⊢
 clear ak0 af0 ak1 af1 ak2 af2 ak3 af3 ak4 af4 ak5 af5 ak6 af6 ak7 af7 ak8 af8 ak9 af9 ak10 af10 ak11 af11 ak12 af12 ak13 af13 ak14 af14 ak15 af15
 obtain ⟨ak0, ak1, ak2, ak3, ak4, ak5, ak6, ak7, ak8, ak9, ak10, ak11, ak12, ak13, ak14, ak15, af0, af1, af2, af3, af4, af5, af6, af7, af8, af9, af10, af11, af12, af13, af14, af15⟩ := Box.c16 hA9
 (try simp only [Exit.inBlock, Exit.then])
 refine bodyPost_ret (v := .tuple #[SA a p b q sq ak f wi (om.decO (L o)).mss (om.decO (L o)).sc (om.decO (L o)).sk A nn cc (om.decO (L o)).tm (om.decO (L o)).va (om.decO (L o)).ec D, .int .i64 0]) ?_ rfl ⟨_, rfl, ⟨A, nn, cc, by rw [tx_L], hl, hrr⟩, hu9⟩
 rw [results_cell_tmp rfl]; go_simp

end Go.Proofs.YtafckmbgefbonaaGreat.pk

namespace Go.Proofs.YtafckmbgefbonaaGreat.pk
open RowKit Shelf Lib sm nb pm

theorem heads_ok (s : ByteArray) (w : World) (hs : s.size ≤ 1048576) (h : im.dec (L s) = 0) (h9 : bt (L s) 9 = 6) (hd : cm.dec (gx (L s)) (gy (L s)) (gg (L s)) = 0) :
  Calls Tryz.prog 39 #[.string s] w fun e w' => e = .returned (.tuple #[ip.HV (gx (L s) : Nat) (gy (L s) : Nat) 6 (bt (L s) 8) (bt (L s) 1) (wd (L s) 4) (decide (wd (L s) 6 ≠ 0)),
   tc.HV ((wd (gg (L s)) 0).toNat : Nat) ((wd (gg (L s)) 2).toNat : Nat) ((qd (gg (L s)) 4).toNat : Nat) ((qd (gg (L s)) 8).toNat : Nat) ((bt (gg (L s)) 13).toNat : Nat) ((wd (gg (L s)) 14).toNat : Nat) (wd (gg (L s)) 18) (tx (optsOf (gg (L s)))),
   .string (tx ((gg (L s)).drop (cm.hl (gg (L s))).toNat)), .int .i64 0]) ∧ Up w w' := by
 refine refHeads2 s (tx (gg (L s))) _ _ (gx (L s)) (gy (L s)) w hs (gx_le _) (gy_le _) (Nat.le_trans (tx_gg s hs) (by decide)) _ _ _ _ (DV6 h h9) _ _ _ _ _ _ _ _ ?_
 rw [L_tx, tc.DV_ok hd, TVg]
theorem refDecode (s : ByteArray) (w : World) (hs : s.size ≤ 1048576) :
  Calls Tryz.prog 17 #[.string s] w fun e_ w' => DecR (errP (L s)) (decP (L s)) w e_ w' := by
 by_cases h : im.dec (L s) ≠ 0
 ·have e : errP (L s) = im.dec (L s) := if_pos h
  rw [decP_bad (by rw [e]; exact h), e]
  exact decode0 s ByteArray.empty ByteArray.empty 0 0 0 0 0 0 0 0 _ 0 0 0 0 0 false w (fun w => refHeads0 s w hs h) h
 have h := Decidable.not_not.1 h
 by_cases h9 : bt (L s) 9 ≠ 6
 ·have e : errP (L s) = 80 := by unfold errP; rw [if_neg (by omega), if_pos h9]
  rw [decP_bad (by rw [e]; decide), e]
  exact decode0 s ByteArray.empty ByteArray.empty 0 0 0 0 0 0 0 0 80 0 0 0 0 0 false w (fun w => refHeads1 s _ w hs _ _ _ _ _ _ _ (ip.DV_ok h) h9) (by decide)
 have h9 := Decidable.not_not.1 h9
 have eP := errP_ok h h9
 by_cases hd : cm.dec (gx (L s)) (gy (L s)) (gg (L s)) ≠ 0
 ·have e : errP (L s) = cm.dec (gx (L s)) (gy (L s)) (gg (L s)) := by rw [eP]; exact if_pos hd
  rw [decP_bad (by rw [e]; exact hd), e]
  refine decode0 s ByteArray.empty ByteArray.empty (gx (L s)) (gy (L s)) 0 0 0 0 0 0 _ 6 _ _ _ 0 _ w (fun w => refHeads2 s (tx (gg (L s))) _ _ (gx (L s)) (gy (L s)) w hs (gx_le _) (gy_le _) (Nat.le_trans (tx_gg s hs) (by decide)) _ _ _ _ (DV6 h h9) 0 0 0 0 0 0 0 _ ?_) hd
  rw [L_tx, tc.DV_err rfl hd]; rfl
 have hd := Decidable.not_not.1 hd
 have HH := fun w => heads_ok s w hs h h9 hd
 have ho : (tx (optsOf (gg (L s)))).size ≤ 1048576 := by
  have h1 := optsOf_len (gg (L s)); have h2 := tx_gg s hs
  rw [tx_size] at h2 ⊢; omega
 have hf : (bt (gg (L s)) 13).toNat ≤ 255 := by have := bt_bd (gg (L s)) 13; omega
 by_cases hq : om.err (optsOf (gg (L s))) ≠ 0
 ·have e : errP (L s) = om.err (optsOf (gg (L s))) := by rw [eP]; unfold errG; rw [if_neg (by omega), if_pos hq]
  rw [decP_bad (by rw [e]; exact hq), e]
  exact decode1 s _ _ _ _ _ _ _ _ _ _ _ _ _ _ _ _ w HH ho _ (by rw [L_tx]) hq
 have hq := Decidable.not_not.1 hq
 by_cases hg : flg (bt (gg (L s)) 13).toNat = false
 ·have e : errP (L s) = 81 := by rw [eP]; unfold errG; rw [if_neg (by omega), if_neg (by omega), if_pos hg]
  rw [decP_bad (by rw [e]; decide), e]
  exact decode2 s _ _ _ _ _ _ _ _ _ _ _ _ _ _ _ _ w HH ho hf (by rw [L_tx]; exact hq) hg
 have hg' : flg (bt (gg (L s)) 13).toNat = true := by simpa using hg
 by_cases hl : 1460 < ((gg (L s)).drop (cm.hl (gg (L s))).toNat).length
 ·have e : errP (L s) = 4 := by rw [eP]; unfold errG; rw [if_neg (by omega), if_neg (by omega), if_neg hg, if_pos hl]
  rw [decP_bad (by rw [e]; decide), e]
  exact decode3 s _ _ _ _ _ _ _ _ _ _ _ _ _ _ _ _ w HH ho hf (by rw [L_tx]; exact hq) hg' (by rw [tx_size]; exact hl)
 have e : errP (L s) = 0 := by rw [eP]; exact errG_ok hd hq hg' (Nat.not_lt.1 hl)
 rw [decP_ok e, e]
 refine (decode4 s _ _ _ _ _ _ _ _ _ _ _ _ _ _ _ _ w HH ho hf (by rw [L_tx]; exact hq) hg' (by rw [tx_size]; exact hl)).mono ?_
 intro e_ w' hr
 rw [L_tx, L_tx] at hr
 exact hr
end Go.Proofs.YtafckmbgefbonaaGreat.pk
