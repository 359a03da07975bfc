/- T: contracts, part 6. Condition: as each says. -/
import Derived.Test.YtafckmbgefbonaaGreatVT4
import Derived.Test.YtafckmbgefbonaaGreatVT5
set_option linter.unusedVariables false
set_option linter.unusedSimpArgs false
set_option maxRecDepth 100000
set_option maxHeartbeats 8000000
namespace Go.Proofs.YtafckmbgefbonaaGreat.pk
open RowKit Shelf Lib sm nb pm

theorem turnsN (c : Int) (x u : ByteArray) (i k m : Nat) (w : World) (hc : 0 ≤ c ∧ c ≤ 65535) (hx : i + k ≤ x.size) (hu : i + k ≤ u.size) (hk : k ≤ 1048576) (hm : m = (k + 1) / 2) :
  Calls Tryz.prog 48 #[.int .u16 c, .string (x.extract i (i + k)), .string (u.extract i (i + k))] w fun e w' => e = .returned (.int .u16 (turns c (((L x).drop i).take k) (((L u).drop i).take k) m)) ∧ Up w w' := by
 subst hm
 have zx : (x.extract i (i + k)).size = k := by rw [ByteArray.size_extract]; omega
 have zu : (u.extract i (i + k)).size = k := by rw [ByteArray.size_extract]; omega
 refine (su.refTurns_n c (x.extract i (i + k)) (u.extract i (i + k)) k w hc (by rw [zx, zu]; omega) (by omega)).mono ?_
 rintro e w' ⟨he, n, rfl⟩
 refine ⟨?_, up_drN n bR⟩
 rw [he]
 have hd : ∀ (y : ByteArray), L ((y.extract i (i + k)).extract 0 k) = ((L y).drop i).take k := fun y => by
  rw [L_extract, L_extract, List.drop_zero, Nat.sub_zero, show i + k - i = k by omega, List.take_take, Nat.min_self]
 rw [hd, hd]
theorem laid_len (l : List UInt8) (t : Sg) (O : List UInt8) (h : 40 + O.length ≤ l.length) : (laid l t O).length = l.length := by
 unfold laid
 simp only [List.length_append, List.length_take, List.length_drop]
 have h1 : ∀ a, (B32 a).length = 4 := fun _ => rfl
 have h2 : ∀ a, (B16 a).length = 2 := fun _ => rfl
 simp only [h1, h2]
 omega
theorem rewrite0 (x : ByteArray) (a1 p1 b1 q1 y1 z1 v1 e1 : Nat) (up dn : Int) (w : World) (hx : x.size ≤ 1048576) (he : errP (L x) ≠ 0) :
  Calls Tryz.prog 19 #[.string x, .agg #[.int .u32 a1, .int .u16 p1, .int .u32 b1, .int .u16 q1, .int .u32 y1, .int .u32 z1, .int .u32 v1, .int .u32 e1, .int .i64 up, .int .i64 dn]] w fun e_ w' => e_ = .returned (RWV (L x) ⟨a1, b1, p1, q1, y1, z1, v1, e1, up, dn⟩) ∧ Up w w' := by
 have HV : Hid (RWV (L x) ⟨a1, b1, p1, q1, y1, z1, v1, e1, up, dn⟩ = .tuple #[.string ByteArray.empty, .int .i64 (errP (L x) : Nat)]) := if_neg he
 have HD := Lib.hid (fun w => refDecode x w hx)
 rw [decP_bad he] at HD
 generalize errP (L x) = n at HV HD he
 have c0 : ¬ (n : Int) = 0 := by omega
 go_enter Tryz.func19, Tryz.ntmps19
 go_upto_region 1 with fail
 have hu := up_al (w := w) (.cells #[.int .u32 a1, .int .u16 p1, .int .u32 b1, .int .u16 q1, .int .u32 y1, .int .u32 z1, .int .u32 v1, .int .u32 e1, .int .i64 up, .int .i64 dn] 46) bR
 generalize (w.alloc (.cells #[.int .u32 a1, .int .u16 p1, .int .u32 b1, .int .u16 q1, .int .u32 y1, .int .u32 z1, .int .u32 v1, .int .u32 e1, .int .i64 up, .int .i64 dn] 46)) = w0 at hu ⊢
 go_wp2_with fail
 refine (HD.out w0).mono ?_
 rintro e w1 ⟨X, rfl, ⟨A, nn, cc, rfl, hl, hr⟩, hv⟩
 have hu1 := hu.on hv
 clear hu hv
 go_upto_region 2 with fail
 generalize hw2 : World.alloc w1 _ = w2
 have hu2 : Up w w2 := hw2 ▸ up_al _ hu1
 clear hw2
 go_wp2_with fail
 go_ret2
 exact ⟨by rw [HV.out]; rfl, hu2⟩
theorem rewrite1 (x : ByteArray) (a1 p1 b1 q1 y1 z1 v1 e1 : Nat) (up dn : Int) (w : World) (hx : x.size ≤ 1048576) (he : errP (L x) = 0) (hX : WfX ⟨a1, b1, p1, q1, y1, z1, v1, e1, up, dn⟩) (hup : -9223372036854775808 ≤ up ∧ up ≤ 9223372036854775807) (hdn : -9223372036854775808 ≤ dn ∧ dn ≤ 9223372036854775807) :
  Calls Tryz.prog 19 #[.string x, .agg #[.int .u32 a1, .int .u16 p1, .int .u32 b1, .int .u16 q1, .int .u32 y1, .int .u32 z1, .int .u32 v1, .int .u32 e1, .int .i64 up, .int .i64 dn]] w fun e_ w' => e_ = .returned (RWV (L x) ⟨a1, b1, p1, q1, y1, z1, v1, e1, up, dn⟩) ∧ Up w w' := by
 have HV : Hid (RWV (L x) ⟨a1, b1, p1, q1, y1, z1, v1, e1, up, dn⟩ = .tuple #[.string (tx (rwP ⟨a1, b1, p1, q1, y1, z1, v1, e1, up, dn⟩ (L x))), .int .i64 0]) := if_pos he
 have HD := Lib.hid (fun w => refDecode x w hx)
 rw [decP_ok he, he] at HD
 obtain ⟨i1, i2, i3⟩ := errP_is0 he
 obtain ⟨g1, g2, g3, g4⟩ := errG_is0 i3
 obtain ⟨c1, c2, c3, c4, c5, c6, d1, d2, d3, d4, d5, d6, d7, DD, HH⟩ : ∃ (c1 c2 c3 c4 c5 : Int) (c6 : Bool) (d1 d2 d3 d4 d5 d6 d7 : Int) (DD : ByteArray), Hid (∀ w, Calls Tryz.prog 39 #[.string x] w fun e w' => e = .returned (.tuple #[ip.HV c1 c2 6 c3 c4 c5 c6, tc.HV d1 d2 d3 d4 d5 d6 d7 (tx (optsOf (gg (L x)))), .string DD, .int .i64 0]) ∧ Up w w') :=
  ⟨_, _, _, _, _, _, _, _, _, _, _, _, _, _, fun w => heads_ok x w hx i1 i2 g1⟩
 obtain ⟨r1, r2, r3⟩ := room he
 have hrw := ref_rw hX he
 have hwf := valP_wf (L x)
 have hbl := (om.decO_rdn (optsOf ((L x).drop 20))).2
 have hbl' : (valP (L x)).op.bl.length ≤ 1048576 := Nat.le_trans hbl (by omega)
 have hx1 : a1 ≤ 4294967295 := hX.1
 have hx2 : b1 ≤ 4294967295 := hX.2.1
 have hx5 : y1 ≤ 4294967295 := hX.2.2.2.2.1
 have hx6 : z1 ≤ 4294967295 := hX.2.2.2.2.2.1
 have hx7 : v1 ≤ 4294967295 := hX.2.2.2.2.2.2.1
 have hx8 : e1 ≤ 4294967295 := hX.2.2.2.2.2.2.2
 obtain ⟨o, ho⟩ : ∃ o, o = tx (om.turnL z1 v1 e1 (optsOf ((L x).drop 20))) := ⟨_, rfl⟩
 have hT : op.TV (optsOf ((L x).drop 20)) z1 v1 e1 = .tuple #[.string o, .int .i64 0] := by rw [op.TV_ok g2, ho]
 have hlo : L o = om.turnL z1 v1 e1 (optsOf ((L x).drop 20)) := by rw [ho, L_tx]
 have hzo : o.size = (optsOf ((L x).drop 20)).length := by rw [← L_len, hlo]; exact (om.turn_err g2).2.2
 have hzx : (L x).length = x.size := L_len x
 rw [hzx] at r1
 rw [← hzo] at r1 r2 r3
 have HTn := Lib.hid (fun w => op.refTurn (tx (optsOf ((L x).drop 20))) z1 v1 e1 w (by rw [tx_size, ← hzo]; omega) (by unfold om.M32; omega) (by unfold om.M32; omega) (by unfold om.M32; omega))
 rw [L_tx, hT] at HTn
 obtain ⟨G, hG⟩ : ∃ G, valP (L x) = G := ⟨_, rfl⟩
 obtain ⟨t, ht⟩ : ∃ t, t = tS ⟨a1, b1, p1, q1, y1, z1, v1, e1, up, dn⟩ G := ⟨_, rfl⟩
 have hwt : WfS t := by rw [ht, ← hG]; exact tS_wf hX hwf
 rw [hG] at HD hwf hbl'
 have hrw2 : refT (L x) (laid (L x) t (L o)) o.size = rwP ⟨a1, b1, p1, q1, y1, z1, v1, e1, up, dn⟩ (L x) := by
  rw [← hrw, ht, ← hG, hlo, ← L_len o, hlo]
 have HRW := Lib.hid hrw2
 clear hrw hrw2 hbl he i1 i2 i3 g1 g2 g3 g4 hT hX
 have hlo' : 40 + o.size ≤ x.size := r1
 clear hG hlo ho hzo
 obtain ⟨a, b, p, q, y, z, f, i, ⟨m, s, k, bl, tm, v, e⟩, D⟩ := G
 obtain ⟨wf1, wf2, wf3, wf4, wf5, wf6, wf7, wf8, wf9⟩ := hwf
 have HTu := Lib.hid (fun A n c w (hn : bl.length = n) (hr : op.RdB w A bl) => refTurned a p b q y z f i m s k A n c tm v e (tx D) bl a1 p1 b1 q1 y1 z1 v1 e1 up dn w wf5 wf6 wf7 wf8 (by have := wf9.2.2.1; unfold om.M32 at this; dsimp only at this; omega) (by have := wf9.2.2.2; unfold om.M32 at this; dsimp only at this; omega) wf9.2.1 hn (by rw [← hn]; exact hbl') hr hx5 hx6 hx7 hx8 hup hdn)
 rw [L_tx, ← ht] at HTu
 clear ht
 go_enter Tryz.func19, Tryz.ntmps19
 go_upto_region 1 with fail
 have hB := Box.new w #[.int .u32 a1, .int .u16 p1, .int .u32 b1, .int .u16 q1, .int .u32 y1, .int .u32 z1, .int .u32 v1, .int .u32 e1, .int .i64 up, .int .i64 dn] 46
 have hu := upM hB bR
 generalize World.alloc w _ = w0 at hB hu ⊢
 generalize w.heap.size = n0 at hB ⊢
 go_wp2_with fail
 refine (HD.out w0).mono ?_
 rintro e_ w1 ⟨X, rfl, ⟨A, nn, cc, rfl, hl, hr⟩, hv⟩
 have hu1 := hu.on hv
 have hB1 := hB.up hv
 clear hu hv hB
 go_upto_region 2 with fail
 have hS2 := Box.new w1 #[.int .u32 a, .int .u16 p, .int .u32 b, .int .u16 q, .int .u32 y, .int .u32 z, .int .u8 f, .int .u16 i, .int .u16 m, .int .i64 s, .bool k, .slice A nn cc, .bool tm, .int .u32 v, .int .u32 e, .string (tx D)] 30
 have hB2 := alN hS2 hB1
 have hr2 := hr.up (up_al (.cells #[.int .u32 a, .int .u16 p, .int .u32 b, .int .u16 q, .int .u32 y, .int .u32 z, .int .u8 f, .int .u16 i, .int .u16 m, .int .i64 s, .bool k, .slice A nn cc, .bool tm, .int .u32 v, .int .u32 e, .string (tx D)] 30) (Below.refl _ w1))
 have hu2 := upM hS2 hu1
 generalize World.alloc w1 _ = w2 at hS2 hB2 hr2 hu2 ⊢
 generalize w1.heap.size = s0 at hS2 ⊢
 clear hB1 hu1 hr w1
 go_wp2_with fail
 refine (HH.out w2).mono ?_
 rintro e_ w3 ⟨rfl, hv⟩
 have hS3 := hS2.up hv
 have hB3 := hB2.up hv
 have hr3 := hr2.up hv
 have hu3 := hu2.on hv
 clear hS2 hB2 hr2 hu2 hv
 generalize hxo : tx (optsOf (gg (L x))) = xo at HTn ⊢
 clear hxo HH HD
 go_upto_region 5 with fail
 have hz4 : (w3.alloc (.cells #[.int .u32 c1, .int .u32 c2, .int .u8 6, .int .u8 c3, .int .u8 c4, .int .u16 c5, .bool c6] 59)).heap.size = w3.heap.size + 1 := World.size_alloc ..
 have hS4 := hS3.alloc (.cells #[.int .u32 c1, .int .u32 c2, .int .u8 6, .int .u8 c3, .int .u8 c4, .int .u16 c5, .bool c6] 59)
 have hB4 := hB3.alloc (.cells #[.int .u32 c1, .int .u32 c2, .int .u8 6, .int .u8 c3, .int .u8 c4, .int .u16 c5, .bool c6] 59)
 have hr4 := hr3.up (up_al (.cells #[.int .u32 c1, .int .u32 c2, .int .u8 6, .int .u8 c3, .int .u8 c4, .int .u16 c5, .bool c6] 59) (Below.refl _ w3))
 have hu4 := up_al (.cells #[.int .u32 c1, .int .u32 c2, .int .u8 6, .int .u8 c3, .int .u8 c4, .int .u16 c5, .bool c6] 59) hu3
 generalize (w3.alloc (.cells #[.int .u32 c1, .int .u32 c2, .int .u8 6, .int .u8 c3, .int .u8 c4, .int .u16 c5, .bool c6] 59)) = w4 at hz4 hS4 hB4 hr4 hu4 ⊢
 have hT5 := Box.new w4 #[.int .u16 d1, .int .u16 d2, .int .u32 d3, .int .u32 d4, .int .u8 d5, .int .u16 d6, .int .u16 d7, .string xo] 55
 rw [hz4] at hT5
 have hS5 := alN hT5 hS4
 have hB5 := alN hT5 hB4
 have hr5 := hr4.up (up_al (.cells #[.int .u16 d1, .int .u16 d2, .int .u32 d3, .int .u32 d4, .int .u8 d5, .int .u16 d6, .int .u16 d7, .string xo] 55) (Below.refl _ w4))
 have hu5 := upM hT5 hu4
 generalize World.alloc w4 _ = w5 at hT5 hS5 hB5 hr5 hu5 ⊢
 generalize w3.heap.size = t0 at hT5 ⊢
 clear hS3 hB3 hr3 hu3 hS4 hB4 hr4 hu4 hz4 w3 w4
 have k7 := hT5.at 7 rfl
 obtain ⟨l0, l1, l2, l3, l4, l5, l6, l7, l8, l9⟩ := bx10 hB5
 go_wp2_with fail
 refine (HTn.out w5).mono ?_
 rintro e_ w6 ⟨rfl, hv⟩
 have hS6 := hS5.up hv
 have hB6 := hB5.up hv
 have hr6 := hr5.up hv
 have hu6 := hu5.on hv
 clear k7 l0 l1 l2 l3 l4 l5 l6 l7 l8 l9 hT5 hS5 hB5 hr5 hu5 hv HTn
 obtain ⟨k0, k1, k2, k3, k4, k5, k6, k7, k8, k9, k10, k11, k12, k13, k14, k15⟩ := bx16 hS6; obtain ⟨l0, l1, l2, l3, l4, l5, l6, l7, l8, l9⟩ := bx10 hB6
 go_wp2_with fail
 refine (HTu.out A nn cc w6 hl hr6).mono ?_
 rintro e_ w7 ⟨X, rfl, ⟨A2, n2, c2_, rfl, hl7, hr7⟩, hv⟩
 have hu7 := hu6.on hv
 clear k0 k1 k2 k3 k4 k5 k6 k7 k8 k9 k10 k11 k12 k13 k14 k15 l0 l1 l2 l3 l4 l5 l6 l7 l8 l9 hS6 hB6 hr6 hu6 hv HTu
 go_wp2_with fail
 refine (refLaid x o t.sa t.sp t.da t.dp t.sq t.ak t.fl t.wi t.op.mss t.op.sc t.op.sk A2 n2 c2_ t.op.tm t.op.va t.op.ec (tx t.dt) w7 t hx hlo' hwt.1 hwt.2.1 hwt.2.2.1 hwt.2.2.2.1 hwt.2.2.2.2.1 hwt.2.2.2.2.2.1 hwt.2.2.2.2.2.2.2.1 rfl rfl rfl rfl rfl rfl rfl).mono ?_
 rintro e_ w8 ⟨rfl, hv⟩
 have hu8 := hu7.on hv
 clear hu7 hv hr7 hl7
 obtain ⟨u, hu_⟩ : ∃ u, u = tx (laid (L x) t (L o)) := ⟨_, rfl⟩
 rw [← hu_]
 have zu : u.size = x.size := by
  rw [hu_, tx_size, laid_len _ _ _ (by rw [L_len, L_len]; exact hlo'), L_len]
 have HU : Hid (L u = laid (L x) t (L o)) := by rw [hu_]; exact L_tx _
 clear hu_
 obtain ⟨n, hn⟩ : ∃ n, o.size = n := ⟨_, rfl⟩
 rw [hn] at hlo' HRW r2 r3
 obtain ⟨T1, hT1⟩ : ∃ T, T = turns (wd (L x) 10) (((L x).drop 12).take 8) (((L u).drop 12).take 8) 4 := ⟨_, rfl⟩
 obtain ⟨T2, hT2⟩ : ∃ T, T = turns (wd (L x) 36) (((L x).drop 12).take 20) (((L u).drop 12).take 20) 10 := ⟨_, rfl⟩
 have bT1 : 0 ≤ T1 ∧ T1 ≤ 65535 := by rw [hT1]; exact turns_bd _ _ _ (wd_bd _ _) _
 have bT2 : 0 ≤ T2 ∧ T2 ≤ 65535 := by rw [hT2]; exact turns_bd _ _ _ (wd_bd _ _) _
 obtain ⟨T3, hT3⟩ : ∃ T, T = turns T2 (((L x).drop 34).take 2) (((L u).drop 34).take 2) 1 := ⟨_, rfl⟩
 have bT3 : 0 ≤ T3 ∧ T3 ≤ 65535 := by rw [hT3]; exact turns_bd _ _ _ bT2 _
 obtain ⟨T4, hT4⟩ : ∃ T, T = turns T3 (((L x).drop 40).take n) (((L u).drop 40).take n) (n / 2) := ⟨_, rfl⟩
 have bT4 : 0 ≤ T4 ∧ T4 ≤ 65535 := by rw [hT4]; exact turns_bd _ _ _ bT3 _
 have HT1 := Lib.hid (fun w => turnsN (wd (L x) 10) x u 12 8 4 w (wd_bd _ _) (by omega) (by omega) (by omega) (by omega))
 rw [← hT1] at HT1
 have HT2 := Lib.hid (fun w => turnsN (wd (L x) 36) x u 12 20 10 w (wd_bd _ _) (by omega) (by omega) (by omega) (by omega))
 rw [← hT2] at HT2
 have HT3 := Lib.hid (fun w => turnsN T2 x u 34 2 1 w bT2 (by omega) (by omega) (by omega) (by omega))
 rw [← hT3] at HT3
 have HT4 := Lib.hid (fun w => turnsN T3 x u 40 n (n / 2) w bT3 (by omega) (by omega) (by omega) (by omega))
 rw [← hT4] at HT4
 obtain ⟨Q1, hQ1⟩ : ∃ Q : ByteArray, Q = u.extract 0 10 := ⟨_, rfl⟩
 obtain ⟨Q2, hQ2⟩ : ∃ Q : ByteArray, Q = u.extract 12 36 := ⟨_, rfl⟩
 obtain ⟨Q3, hQ3⟩ : ∃ Q : ByteArray, Q = u.extract 38 u.size := ⟨_, rfl⟩
 have zQ1 : Q1.size = 10 := by rw [hQ1, ByteArray.size_extract]; omega
 have zQ2 : Q2.size = 24 := by rw [hQ2, ByteArray.size_extract]; omega
 have zQ3 : Q3.size ≤ 1048576 := by rw [hQ3, ByteArray.size_extract]; omega
 have z16 : ∀ n, (tx (B16 n)).size = 2 := fun n => by rw [tx_size]; rfl
 obtain ⟨Y1, hY1⟩ : ∃ Y : ByteArray, Y = Q1 ++ tx (B16 T1.toNat) := ⟨_, rfl⟩
 have zY1 : Y1.size = 12 := by rw [hY1, ByteArray.size_append, zQ1, z16]
 obtain ⟨Y2, hY2⟩ : ∃ Y : ByteArray, Y = Y1 ++ Q2 := ⟨_, rfl⟩
 have zY2 : Y2.size = 36 := by rw [hY2, ByteArray.size_append, zY1, zQ2]
 obtain ⟨Y3, hY3⟩ : ∃ Y : ByteArray, Y = Y2 ++ tx (B16 T4.toNat) := ⟨_, rfl⟩
 have zY3 : Y3.size = 38 := by rw [hY3, ByteArray.size_append, zY2, z16]
 obtain ⟨Y4, hY4⟩ : ∃ Y : ByteArray, Y = Y3 ++ Q3 := ⟨_, rfl⟩
 have HF : Hid (Y4 = tx (rwP ⟨a1, b1, p1, q1, y1, z1, v1, e1, up, dn⟩ (L x))) := by
  unfold Hid
  rw [← HRW.out, ← HU.out]
  refine ba_eq ?_
  unfold refT
  rw [L_tx, hY4, hY3, hY2, hY1, hQ1, hQ2, hQ3, hT4, hT3, hT2, hT1]
  simp only [L_app, L_tx, L_extract, List.append_assoc, L_len, List.drop_zero, Nat.sub_zero, Nat.reduceSub]
  rw [List.take_of_length_le (l := (L u).drop 38) (by rw [List.length_drop, L_len]; exact Nat.le_refl _)]
 have HQ1 := Lib.hid hQ1; have HQ2 := Lib.hid hQ2
 have HQ3 : Hid (Q3 = u.extract 38 x.size) := by rw [hQ3, zu]; exact Lib.hid rfl
 have HY1 := Lib.hid hY1; have HY2 := Lib.hid hY2; have HY3 := Lib.hid hY3; have HY4 := Lib.hid hY4
 have y10 : IntKind.u16.wrap (wd (L x) 10) = wd (L x) 10 := by have := wd_bd (L x) 10; rw [IntKind.wrap_u16]; omega
 have y36 : IntKind.u16.wrap (wd (L x) 36) = wd (L x) 36 := by have := wd_bd (L x) 36; rw [IntKind.wrap_u16]; omega
 have yn : IntKind.i64.wrap (40 + (n : Int)) = 40 + (n : Int) := IntWalk.i64_in _ (by omega)
 have j1 : (40 : Int) + (n : Int) ≤ (x.size : Int) := by omega
 have j2 : (40 : Int) ≤ 40 + (n : Int) := by omega
 have j3 : (0 : Int) ≤ 40 + (n : Int) := by omega
 have j4 : (40 + (n : Int)).toNat = 40 + n := by omega
 have m10 : (10 : Int) ≤ (x.size : Int) := by omega
 have m12 : (12 : Int) ≤ (x.size : Int) := by omega
 have m20 : (20 : Int) ≤ (x.size : Int) := by omega
 have m32 : (32 : Int) ≤ (x.size : Int) := by omega
 have m36 : (36 : Int) ≤ (x.size : Int) := by omega
 have m38 : (38 : Int) ≤ (x.size : Int) := by omega
 clear hQ1 hQ2 hQ3 hY1 hY2 hY3 hY4 hT1 hT2 hT3 hT4 HRW HU hwt wf1 wf2 wf3 wf4 wf5 wf6 wf7 wf8 wf9
 go_upto_region 7 with fail
 refine wp_region_rel2 (fun W => Up w8 W) (fun W W' => Up W W') (Ys [Det (.string x),
  Det (.string (x.extract 10 12)),
  Det (.int .u32 (wd (L x) 10)),
  Det (.int .u16 (wd (L x) 10)),
  Det (.string x),
  Det (.string (x.extract 12 20)),
  Det (.string u),
  Det (.string (u.extract 12 20)),
  Det (.int .u16 T1),
  Det (.int .u16 T1)]) (by kernel_rfl) (by kernel_rfl) (up_dr bR) (Stable.ys ⟨Det.st _, Det.st _, Det.st _, Det.st _, Det.st _, Det.st _, Det.st _, Det.st _, Det.st _, Det.st _, trivial⟩) ?_ ?_
 ·
  refine oC ?_ ?_
  ·intro aa ww hC hp hvar KK hK
   have d0 : aa.tmps.getD 0 undef = .string x := hvar 0 (slotOk_spec (by kernel_rfl))
   have d0_ := gD d0
   clear hp hvar
   simp (config := { decide := true }) [go_sem, opTo, opUpon, *]
   exact hK _ _ rfl hC bR
  refine oC ?_ ?_
  ·intro aa ww hC hp hvar KK hK
   have d50 : aa.tmps.getD 50 undef = .string x := dep_of hp 0 50 (by kernel_rfl)
   have d50_ := gD d50
   clear hp hvar
   (unfold opTo; go_simp; try simp only [opUpon])
   exact hK _ _ rfl hC bR
  refine oC ?_ ?_
  ·intro aa ww hC hp hvar KK hK
   have d51 : aa.tmps.getD 51 undef = .string (x.extract 10 12) := dep_of hp 1 51 (by kernel_rfl)
   have d51_ := gD d51
   clear hp hvar
   (unfold opTo; go_simp; try simp only [opUpon])
   exact (ip.num2 x 10 (by omega) _).mono fun e w2 h => by obtain ⟨h1, rfl⟩ := h; exact ⟨_, h1, hK _ _ rfl hC bR⟩
  refine oC ?_ ?_
  ·intro aa ww hC hp hvar KK hK
   have d52 : aa.tmps.getD 52 undef = .int .u32 (wd (L x) 10) := dep_of hp 2 52 (by kernel_rfl)
   have d52_ := gD d52
   clear hp hvar
   (unfold opTo; go_simp; try simp only [opUpon])
   exact hK _ _ rfl hC bR
  refine oC ?_ ?_
  ·intro aa ww hC hp hvar KK hK
   have d0 : aa.tmps.getD 0 undef = .string x := hvar 0 (slotOk_spec (by kernel_rfl))
   have d0_ := gD d0
   clear hp hvar
   simp (config := { decide := true }) [go_sem, opTo, opUpon, *]
   exact hK _ _ rfl hC bR
  refine oC ?_ ?_
  ·intro aa ww hC hp hvar KK hK
   have d54 : aa.tmps.getD 54 undef = .string x := dep_of hp 4 54 (by kernel_rfl)
   have d54_ := gD d54
   clear hp hvar
   (unfold opTo; go_simp; try simp only [opUpon])
   exact hK _ _ rfl hC bR
  refine oC ?_ ?_
  ·intro aa ww hC hp hvar KK hK
   have d14 : aa.tmps.getD 14 undef = .string u := hvar 14 (slotOk_spec (by kernel_rfl))
   have d14_ := gD d14
   clear hp hvar
   simp (config := { decide := true }) [go_sem, opTo, opUpon, *]
   exact hK _ _ rfl hC bR
  refine oC ?_ ?_
  ·intro aa ww hC hp hvar KK hK
   have d56 : aa.tmps.getD 56 undef = .string u := dep_of hp 6 56 (by kernel_rfl)
   have d56_ := gD d56
   clear hp hvar
   (unfold opTo; go_simp; try simp only [opUpon])
   exact hK _ _ rfl hC bR
  refine oC ?_ ?_
  ·intro aa ww hC hp hvar KK hK
   have d53 : aa.tmps.getD 53 undef = .int .u16 (wd (L x) 10) := dep_of hp 3 53 (by kernel_rfl)
   have d55 : aa.tmps.getD 55 undef = .string (x.extract 12 20) := dep_of hp 5 55 (by kernel_rfl)
   have d57 : aa.tmps.getD 57 undef = .string (u.extract 12 20) := dep_of hp 7 57 (by kernel_rfl)
   have d53_ := gD d53
   have d55_ := gD d55
   have d57_ := gD d57
   clear hp hvar
   (unfold opTo; go_simp; try simp only [opUpon])
   exact (HT1.out _).mono fun e w2 h => ⟨_, h.1, hK _ _ rfl (Up.on hC h.2) h.2⟩
  refine oC ?_ ?_
  ·intro aa ww hC hp hvar KK hK
   have d58 : aa.tmps.getD 58 undef = .int .u16 T1 := dep_of hp 8 58 (by kernel_rfl)
   have d58_ := gD d58
   clear hp hvar
   simp (config := { decide := true }) [go_sem, opTo, opUpon, *]
   exact hK _ _ rfl hC bR
  exact obligs_nil
 intro vals ww hC hY
 have e0 : vals 0 = .string x := hY 0 _ _ rfl rfl
 have e1 : vals 1 = .string (x.extract 10 12) := hY 1 _ _ rfl rfl
 have e2 : vals 2 = .int .u32 (wd (L x) 10) := hY 2 _ _ rfl rfl
 have e3 : vals 3 = .int .u16 (wd (L x) 10) := hY 3 _ _ rfl rfl
 have e4 : vals 4 = .string x := hY 4 _ _ rfl rfl
 have e5 : vals 5 = .string (x.extract 12 20) := hY 5 _ _ rfl rfl
 have e6 : vals 6 = .string u := hY 6 _ _ rfl rfl
 have e7 : vals 7 = .string (u.extract 12 20) := hY 7 _ _ rfl rfl
 have e8 : vals 8 = .int .u16 T1 := hY 8 _ _ rfl rfl
 have e9 : vals 9 = .int .u16 T1 := hY 9 _ _ rfl rfl
 clear hY
 simp only [putAll, Act.put, List.setIfInBounds_toArray, List.set_cons_zero, List.set_cons_succ, e0, e1, e2, e3, e4, e5, e6, e7, e8, e9]
 clear e0 e1 e2 e3 e4 e5 e6 e7 e8 e9
 have hu6a := hu8.on hC
 clear hu8 hC
 generalize ww = w6a at hu6a ⊢

 go_upto_region 8 with fail
 refine wp_region_rel2 (fun W => Up w6a W) (fun W W' => Up W W') (Ys [Det (.string x),
  Det (.string (x.extract 36 38)),
  Det (.int .u32 (wd (L x) 36)),
  Det (.int .u16 (wd (L x) 36)),
  Det (.string x),
  Det (.string (x.extract 12 32)),
  Det (.string u),
  Det (.string (u.extract 12 32)),
  Det (.int .u16 T2),
  Det (.int .u16 T2)]) (by kernel_rfl) (by kernel_rfl) (up_dr bR) (Stable.ys ⟨Det.st _, Det.st _, Det.st _, Det.st _, Det.st _, Det.st _, Det.st _, Det.st _, Det.st _, Det.st _, trivial⟩) ?_ ?_
 ·
  refine oC ?_ ?_
  ·intro aa ww hC hp hvar KK hK
   have d0 : aa.tmps.getD 0 undef = .string x := hvar 0 (slotOk_spec (by kernel_rfl))
   have d0_ := gD d0
   clear hp hvar
   simp (config := { decide := true }) [go_sem, opTo, opUpon, *]
   exact hK _ _ rfl hC bR
  refine oC ?_ ?_
  ·intro aa ww hC hp hvar KK hK
   have d59 : aa.tmps.getD 59 undef = .string x := dep_of hp 0 59 (by kernel_rfl)
   have d59_ := gD d59
   clear hp hvar
   (unfold opTo; go_simp; try simp only [opUpon])
   exact hK _ _ rfl hC bR
  refine oC ?_ ?_
  ·intro aa ww hC hp hvar KK hK
   have d60 : aa.tmps.getD 60 undef = .string (x.extract 36 38) := dep_of hp 1 60 (by kernel_rfl)
   have d60_ := gD d60
   clear hp hvar
   (unfold opTo; go_simp; try simp only [opUpon])
   exact (ip.num2 x 36 (by omega) _).mono fun e w2 h => by obtain ⟨h1, rfl⟩ := h; exact ⟨_, h1, hK _ _ rfl hC bR⟩
  refine oC ?_ ?_
  ·intro aa ww hC hp hvar KK hK
   have d61 : aa.tmps.getD 61 undef = .int .u32 (wd (L x) 36) := dep_of hp 2 61 (by kernel_rfl)
   have d61_ := gD d61
   clear hp hvar
   (unfold opTo; go_simp; try simp only [opUpon])
   exact hK _ _ rfl hC bR
  refine oC ?_ ?_
  ·intro aa ww hC hp hvar KK hK
   have d0 : aa.tmps.getD 0 undef = .string x := hvar 0 (slotOk_spec (by kernel_rfl))
   have d0_ := gD d0
   clear hp hvar
   simp (config := { decide := true }) [go_sem, opTo, opUpon, *]
   exact hK _ _ rfl hC bR
  refine oC ?_ ?_
  ·intro aa ww hC hp hvar KK hK
   have d63 : aa.tmps.getD 63 undef = .string x := dep_of hp 4 63 (by kernel_rfl)
   have d63_ := gD d63
   clear hp hvar
   (unfold opTo; go_simp; try simp only [opUpon])
   exact hK _ _ rfl hC bR
  refine oC ?_ ?_
  ·intro aa ww hC hp hvar KK hK
   have d14 : aa.tmps.getD 14 undef = .string u := hvar 14 (slotOk_spec (by kernel_rfl))
   have d14_ := gD d14
   clear hp hvar
   simp (config := { decide := true }) [go_sem, opTo, opUpon, *]
   exact hK _ _ rfl hC bR
  refine oC ?_ ?_
  ·intro aa ww hC hp hvar KK hK
   have d65 : aa.tmps.getD 65 undef = .string u := dep_of hp 6 65 (by kernel_rfl)
   have d65_ := gD d65
   clear hp hvar
   (unfold opTo; go_simp; try simp only [opUpon])
   exact hK _ _ rfl hC bR
  refine oC ?_ ?_
  ·intro aa ww hC hp hvar KK hK
   have d62 : aa.tmps.getD 62 undef = .int .u16 (wd (L x) 36) := dep_of hp 3 62 (by kernel_rfl)
   have d64 : aa.tmps.getD 64 undef = .string (x.extract 12 32) := dep_of hp 5 64 (by kernel_rfl)
   have d66 : aa.tmps.getD 66 undef = .string (u.extract 12 32) := dep_of hp 7 66 (by kernel_rfl)
   have d62_ := gD d62
   have d64_ := gD d64
   have d66_ := gD d66
   clear hp hvar
   (unfold opTo; go_simp; try simp only [opUpon])
   exact (HT2.out _).mono fun e w2 h => ⟨_, h.1, hK _ _ rfl (Up.on hC h.2) h.2⟩
  refine oC ?_ ?_
  ·intro aa ww hC hp hvar KK hK
   have d67 : aa.tmps.getD 67 undef = .int .u16 T2 := dep_of hp 8 67 (by kernel_rfl)
   have d67_ := gD d67
   clear hp hvar
   simp (config := { decide := true }) [go_sem, opTo, opUpon, *]
   exact hK _ _ rfl hC bR
  exact obligs_nil
 intro vals ww hC hY
 have e0 : vals 0 = .string x := hY 0 _ _ rfl rfl
 have e1 : vals 1 = .string (x.extract 36 38) := hY 1 _ _ rfl rfl
 have e2 : vals 2 = .int .u32 (wd (L x) 36) := hY 2 _ _ rfl rfl
 have e3 : vals 3 = .int .u16 (wd (L x) 36) := hY 3 _ _ rfl rfl
 have e4 : vals 4 = .string x := hY 4 _ _ rfl rfl
 have e5 : vals 5 = .string (x.extract 12 32) := hY 5 _ _ rfl rfl
 have e6 : vals 6 = .string u := hY 6 _ _ rfl rfl
 have e7 : vals 7 = .string (u.extract 12 32) := hY 7 _ _ rfl rfl
 have e8 : vals 8 = .int .u16 T2 := hY 8 _ _ rfl rfl
 have e9 : vals 9 = .int .u16 T2 := hY 9 _ _ rfl rfl
 clear hY
 simp only [putAll, Act.put, List.setIfInBounds_toArray, List.set_cons_zero, List.set_cons_succ, e0, e1, e2, e3, e4, e5, e6, e7, e8, e9]
 clear e0 e1 e2 e3 e4 e5 e6 e7 e8 e9
 have hu7a := hu6a.on hC
 clear hu6a hC
 generalize ww = w7a at hu7a ⊢

 go_upto_region 9 with fail
 refine wp_region_rel2 (fun W => Up w7a W) (fun W W' => Up W W') (Ys [Det (.int .u16 T2),
  Det (.string x),
  Det (.string (x.extract 34 36)),
  Det (.string u),
  Det (.string (u.extract 34 36)),
  Det (.int .u16 T3),
  Det (.int .u16 T3)]) (by kernel_rfl) (by kernel_rfl) (up_dr bR) (Stable.ys ⟨Det.st _, Det.st _, Det.st _, Det.st _, Det.st _, Det.st _, Det.st _, trivial⟩) ?_ ?_
 ·
  refine oC ?_ ?_
  ·intro aa ww hC hp hvar KK hK
   have d16 : aa.tmps.getD 16 undef = .int .u16 T2 := hvar 16 (slotOk_spec (by kernel_rfl))
   have d16_ := gD d16
   clear hp hvar
   simp (config := { decide := true }) [go_sem, opTo, opUpon, *]
   exact hK _ _ rfl hC bR
  refine oC ?_ ?_
  ·intro aa ww hC hp hvar KK hK
   have d0 : aa.tmps.getD 0 undef = .string x := hvar 0 (slotOk_spec (by kernel_rfl))
   have d0_ := gD d0
   clear hp hvar
   simp (config := { decide := true }) [go_sem, opTo, opUpon, *]
   exact hK _ _ rfl hC bR
  refine oC ?_ ?_
  ·intro aa ww hC hp hvar KK hK
   have d69 : aa.tmps.getD 69 undef = .string x := dep_of hp 1 69 (by kernel_rfl)
   have d69_ := gD d69
   clear hp hvar
   (unfold opTo; go_simp; try simp only [opUpon])
   exact hK _ _ rfl hC bR
  refine oC ?_ ?_
  ·intro aa ww hC hp hvar KK hK
   have d14 : aa.tmps.getD 14 undef = .string u := hvar 14 (slotOk_spec (by kernel_rfl))
   have d14_ := gD d14
   clear hp hvar
   simp (config := { decide := true }) [go_sem, opTo, opUpon, *]
   exact hK _ _ rfl hC bR
  refine oC ?_ ?_
  ·intro aa ww hC hp hvar KK hK
   have d71 : aa.tmps.getD 71 undef = .string u := dep_of hp 3 71 (by kernel_rfl)
   have d71_ := gD d71
   clear hp hvar
   (unfold opTo; go_simp; try simp only [opUpon])
   exact hK _ _ rfl hC bR
  refine oC ?_ ?_
  ·intro aa ww hC hp hvar KK hK
   have d68 : aa.tmps.getD 68 undef = .int .u16 T2 := dep_of hp 0 68 (by kernel_rfl)
   have d70 : aa.tmps.getD 70 undef = .string (x.extract 34 36) := dep_of hp 2 70 (by kernel_rfl)
   have d72 : aa.tmps.getD 72 undef = .string (u.extract 34 36) := dep_of hp 4 72 (by kernel_rfl)
   have d68_ := gD d68
   have d70_ := gD d70
   have d72_ := gD d72
   clear hp hvar
   (unfold opTo; go_simp; try simp only [opUpon])
   exact (HT3.out _).mono fun e w2 h => ⟨_, h.1, hK _ _ rfl (Up.on hC h.2) h.2⟩
  refine oC ?_ ?_
  ·intro aa ww hC hp hvar KK hK
   have d73 : aa.tmps.getD 73 undef = .int .u16 T3 := dep_of hp 5 73 (by kernel_rfl)
   have d73_ := gD d73
   clear hp hvar
   simp (config := { decide := true }) [go_sem, opTo, opUpon, *]
   exact hK _ _ rfl hC bR
  exact obligs_nil
 intro vals ww hC hY
 have e0 : vals 0 = .int .u16 T2 := hY 0 _ _ rfl rfl
 have e1 : vals 1 = .string x := hY 1 _ _ rfl rfl
 have e2 : vals 2 = .string (x.extract 34 36) := hY 2 _ _ rfl rfl
 have e3 : vals 3 = .string u := hY 3 _ _ rfl rfl
 have e4 : vals 4 = .string (u.extract 34 36) := hY 4 _ _ rfl rfl
 have e5 : vals 5 = .int .u16 T3 := hY 5 _ _ rfl rfl
 have e6 : vals 6 = .int .u16 T3 := hY 6 _ _ rfl rfl
 clear hY
 simp only [putAll, Act.put, List.setIfInBounds_toArray, List.set_cons_zero, List.set_cons_succ, e0, e1, e2, e3, e4, e5, e6]
 clear e0 e1 e2 e3 e4 e5 e6
 have hu8a := hu7a.on hC
 clear hu7a hC
 generalize ww = w8a at hu8a ⊢

 go_upto_region 10 with fail
 refine wp_region_rel2 (fun W => Up w8a W) (fun W W' => Up W W') (Ys [Det (.int .u16 T3),
  Det (.string x),
  Det (.string o),
  Det (.int .i64 n),
  Det (.int .i64 (40 + (n : Int))),
  Det (.string (x.extract 40 (40 + n))),
  Det (.string u),
  Det (.string o),
  Det (.int .i64 n),
  Det (.int .i64 (40 + (n : Int))),
  Det (.string (u.extract 40 (40 + n))),
  Det (.int .u16 T4),
  Det (.int .u16 T4)]) (by kernel_rfl) (by kernel_rfl) (up_dr bR) (Stable.ys ⟨Det.st _, Det.st _, Det.st _, Det.st _, Det.st _, Det.st _, Det.st _, Det.st _, Det.st _, Det.st _, Det.st _, Det.st _, Det.st _, trivial⟩) ?_ ?_
 ·
  refine oC ?_ ?_
  ·intro aa ww hC hp hvar KK hK
   have d16 : aa.tmps.getD 16 undef = .int .u16 T3 := hvar 16 (slotOk_spec (by kernel_rfl))
   have d16_ := gD d16
   clear hp hvar
   simp (config := { decide := true }) [go_sem, opTo, opUpon, *]
   exact hK _ _ rfl hC bR
  refine oC ?_ ?_
  ·intro aa ww hC hp hvar KK hK
   have d0 : aa.tmps.getD 0 undef = .string x := hvar 0 (slotOk_spec (by kernel_rfl))
   have d0_ := gD d0
   clear hp hvar
   simp (config := { decide := true }) [go_sem, opTo, opUpon, *]
   exact hK _ _ rfl hC bR
  refine oC ?_ ?_
  ·intro aa ww hC hp hvar KK hK
   have d12 : aa.tmps.getD 12 undef = .string o := hvar 12 (slotOk_spec (by kernel_rfl))
   have d12_ := gD d12
   clear hp hvar
   simp (config := { decide := true }) [go_sem, opTo, opUpon, *]
   exact hK _ _ rfl hC bR
  refine oC ?_ ?_
  ·intro aa ww hC hp hvar KK hK
   have d76 : aa.tmps.getD 76 undef = .string o := dep_of hp 2 76 (by kernel_rfl)
   have d76_ := gD d76
   clear hp hvar
   (unfold opTo; go_simp; try simp only [opUpon])
   exact hK _ _ rfl hC bR
  refine oC ?_ ?_
  ·intro aa ww hC hp hvar KK hK
   have d77 : aa.tmps.getD 77 undef = .int .i64 n := dep_of hp 3 77 (by kernel_rfl)
   have d77_ := gD d77
   clear hp hvar
   (unfold opTo; go_simp; try simp only [opUpon])
   exact hK _ _ rfl hC bR
  refine oC ?_ ?_
  ·intro aa ww hC hp hvar KK hK
   have d75 : aa.tmps.getD 75 undef = .string x := dep_of hp 1 75 (by kernel_rfl)
   have d78 : aa.tmps.getD 78 undef = .int .i64 (40 + (n : Int)) := dep_of hp 4 78 (by kernel_rfl)
   have d75_ := gD d75
   have d78_ := gD d78
   clear hp hvar
   (unfold opTo; go_simp; try simp only [opUpon])
   exact hK _ _ rfl hC bR
  refine oC ?_ ?_
  ·intro aa ww hC hp hvar KK hK
   have d14 : aa.tmps.getD 14 undef = .string u := hvar 14 (slotOk_spec (by kernel_rfl))
   have d14_ := gD d14
   clear hp hvar
   simp (config := { decide := true }) [go_sem, opTo, opUpon, *]
   exact hK _ _ rfl hC bR
  refine oC ?_ ?_
  ·intro aa ww hC hp hvar KK hK
   have d12 : aa.tmps.getD 12 undef = .string o := hvar 12 (slotOk_spec (by kernel_rfl))
   have d12_ := gD d12
   clear hp hvar
   simp (config := { decide := true }) [go_sem, opTo, opUpon, *]
   exact hK _ _ rfl hC bR
  refine oC ?_ ?_
  ·intro aa ww hC hp hvar KK hK
   have d81 : aa.tmps.getD 81 undef = .string o := dep_of hp 7 81 (by kernel_rfl)
   have d81_ := gD d81
   clear hp hvar
   (unfold opTo; go_simp; try simp only [opUpon])
   exact hK _ _ rfl hC bR
  refine oC ?_ ?_
  ·intro aa ww hC hp hvar KK hK
   have d82 : aa.tmps.getD 82 undef = .int .i64 n := dep_of hp 8 82 (by kernel_rfl)
   have d82_ := gD d82
   clear hp hvar
   (unfold opTo; go_simp; try simp only [opUpon])
   exact hK _ _ rfl hC bR
  refine oC ?_ ?_
  ·intro aa ww hC hp hvar KK hK
   have d80 : aa.tmps.getD 80 undef = .string u := dep_of hp 6 80 (by kernel_rfl)
   have d83 : aa.tmps.getD 83 undef = .int .i64 (40 + (n : Int)) := dep_of hp 9 83 (by kernel_rfl)
   have d80_ := gD d80
   have d83_ := gD d83
   clear hp hvar
   (unfold opTo; go_simp; try simp only [opUpon])
   exact hK _ _ rfl hC bR
  refine oC ?_ ?_
  ·intro aa ww hC hp hvar KK hK
   have d74 : aa.tmps.getD 74 undef = .int .u16 T3 := dep_of hp 0 74 (by kernel_rfl)
   have d79 : aa.tmps.getD 79 undef = .string (x.extract 40 (40 + n)) := dep_of hp 5 79 (by kernel_rfl)
   have d84 : aa.tmps.getD 84 undef = .string (u.extract 40 (40 + n)) := dep_of hp 10 84 (by kernel_rfl)
   have d74_ := gD d74
   have d79_ := gD d79
   have d84_ := gD d84
   clear hp hvar
   (unfold opTo; go_simp; try simp only [opUpon])
   exact (HT4.out _).mono fun e w2 h => ⟨_, h.1, hK _ _ rfl (Up.on hC h.2) h.2⟩
  refine oC ?_ ?_
  ·intro aa ww hC hp hvar KK hK
   have d85 : aa.tmps.getD 85 undef = .int .u16 T4 := dep_of hp 11 85 (by kernel_rfl)
   have d85_ := gD d85
   clear hp hvar
   simp (config := { decide := true }) [go_sem, opTo, opUpon, *]
   exact hK _ _ rfl hC bR
  exact obligs_nil
 intro vals ww hC hY
 have e0 : vals 0 = .int .u16 T3 := hY 0 _ _ rfl rfl
 have e1 : vals 1 = .string x := hY 1 _ _ rfl rfl
 have e2 : vals 2 = .string o := hY 2 _ _ rfl rfl
 have e3 : vals 3 = .int .i64 n := hY 3 _ _ rfl rfl
 have e4 : vals 4 = .int .i64 (40 + (n : Int)) := hY 4 _ _ rfl rfl
 have e5 : vals 5 = .string (x.extract 40 (40 + n)) := hY 5 _ _ rfl rfl
 have e6 : vals 6 = .string u := hY 6 _ _ rfl rfl
 have e7 : vals 7 = .string o := hY 7 _ _ rfl rfl
 have e8 : vals 8 = .int .i64 n := hY 8 _ _ rfl rfl
 have e9 : vals 9 = .int .i64 (40 + (n : Int)) := hY 9 _ _ rfl rfl
 have e10 : vals 10 = .string (u.extract 40 (40 + n)) := hY 10 _ _ rfl rfl
 have e11 : vals 11 = .int .u16 T4 := hY 11 _ _ rfl rfl
 have e12 : vals 12 = .int .u16 T4 := hY 12 _ _ rfl rfl
 clear hY
 simp only [putAll, Act.put, List.setIfInBounds_toArray, List.set_cons_zero, List.set_cons_succ, e0, e1, e2, e3, e4, e5, e6, e7, e8, e9, e10, e11, e12]
 clear e0 e1 e2 e3 e4 e5 e6 e7 e8 e9 e10 e11 e12
 have hu9a := hu8a.on hC
 clear hu8a hC
 generalize ww = w9a at hu9a ⊢

 go_upto_region 11 with fail
 refine wp_region_rel2 (fun W => Up w9a W) (fun W W' => Up W W') (Ys [Det (.string u),
  Det (.string Q1),
  Det (.int .u16 T1),
  Det (.string (tx (B16 T1.toNat))),
  Det (.string Y1),
  Det (.string u),
  Det (.string Q2),
  Det (.string Y2),
  Det (.int .u16 T4),
  Det (.string (tx (B16 T4.toNat))),
  Det (.string Y3),
  Det (.string u),
  Det (.string Q3),
  Det (.string Y4),
  Det (.string Y4),
  Det (.int .i64 0)]) (by kernel_rfl) (by kernel_rfl) (up_dr bR) (Stable.ys ⟨Det.st _, Det.st _, Det.st _, Det.st _, Det.st _, Det.st _, Det.st _, Det.st _, Det.st _, Det.st _, Det.st _, Det.st _, Det.st _, Det.st _, Det.st _, Det.st _, trivial⟩) ?_ ?_
 ·
  refine oC ?_ ?_
  ·intro aa ww hC hp hvar KK hK
   have d14 : aa.tmps.getD 14 undef = .string u := hvar 14 (slotOk_spec (by kernel_rfl))
   have d14_ := gD d14
   clear hp hvar
   simp (config := { decide := true }) [go_sem, opTo, opUpon, *]
   exact hK _ _ rfl hC bR
  refine oC ?_ ?_
  ·intro aa ww hC hp hvar KK hK
   have d86 : aa.tmps.getD 86 undef = .string u := dep_of hp 0 86 (by kernel_rfl)
   have d86_ := gD d86
   clear hp hvar
   (unfold opTo; go_simp; try simp only [opUpon])
   rw [← HQ1.out]
   exact hK _ _ rfl hC bR
  refine oC ?_ ?_
  ·intro aa ww hC hp hvar KK hK
   have d15 : aa.tmps.getD 15 undef = .int .u16 T1 := hvar 15 (slotOk_spec (by kernel_rfl))
   have d15_ := gD d15
   clear hp hvar
   simp (config := { decide := true }) [go_sem, opTo, opUpon, *]
   exact hK _ _ rfl hC bR
  refine oC ?_ ?_
  ·intro aa ww hC hp hvar KK hK
   have d88 : aa.tmps.getD 88 undef = .int .u16 T1 := dep_of hp 2 88 (by kernel_rfl)
   have d88_ := gD d88
   clear hp hvar
   (unfold opTo; go_simp; try simp only [opUpon])
   exact (ip.refBytes T1 _ bT1).mono fun e w2 h => ⟨_, h.1, hK _ _ rfl (Up.on hC h.2) h.2⟩
  refine oC ?_ ?_
  ·intro aa ww hC hp hvar KK hK
   have d87 : aa.tmps.getD 87 undef = .string Q1 := dep_of hp 1 87 (by kernel_rfl)
   have d89 : aa.tmps.getD 89 undef = .string (tx (B16 T1.toNat)) := dep_of hp 3 89 (by kernel_rfl)
   have d87_ := gD d87
   have d89_ := gD d89
   clear hp hvar
   have hno : ¬ 9223372036854775807 < 10 + 2 := by omega
   (unfold opTo; go_simp; try simp only [opUpon])
   rw [← HY1.out]
   exact hK _ _ rfl hC bR
  refine oC ?_ ?_
  ·intro aa ww hC hp hvar KK hK
   have d14 : aa.tmps.getD 14 undef = .string u := hvar 14 (slotOk_spec (by kernel_rfl))
   have d14_ := gD d14
   clear hp hvar
   simp (config := { decide := true }) [go_sem, opTo, opUpon, *]
   exact hK _ _ rfl hC bR
  refine oC ?_ ?_
  ·intro aa ww hC hp hvar KK hK
   have d91 : aa.tmps.getD 91 undef = .string u := dep_of hp 5 91 (by kernel_rfl)
   have d91_ := gD d91
   clear hp hvar
   (unfold opTo; go_simp; try simp only [opUpon])
   rw [← HQ2.out]
   exact hK _ _ rfl hC bR
  refine oC ?_ ?_
  ·intro aa ww hC hp hvar KK hK
   have d90 : aa.tmps.getD 90 undef = .string Y1 := dep_of hp 4 90 (by kernel_rfl)
   have d92 : aa.tmps.getD 92 undef = .string Q2 := dep_of hp 6 92 (by kernel_rfl)
   have d90_ := gD d90
   have d92_ := gD d92
   clear hp hvar
   have hno : ¬ 9223372036854775807 < 12 + 24 := by omega
   (unfold opTo; go_simp; try simp only [opUpon])
   rw [← HY2.out]
   exact hK _ _ rfl hC bR
  refine oC ?_ ?_
  ·intro aa ww hC hp hvar KK hK
   have d16 : aa.tmps.getD 16 undef = .int .u16 T4 := hvar 16 (slotOk_spec (by kernel_rfl))
   have d16_ := gD d16
   clear hp hvar
   simp (config := { decide := true }) [go_sem, opTo, opUpon, *]
   exact hK _ _ rfl hC bR
  refine oC ?_ ?_
  ·intro aa ww hC hp hvar KK hK
   have d94 : aa.tmps.getD 94 undef = .int .u16 T4 := dep_of hp 8 94 (by kernel_rfl)
   have d94_ := gD d94
   clear hp hvar
   (unfold opTo; go_simp; try simp only [opUpon])
   exact (ip.refBytes T4 _ bT4).mono fun e w2 h => ⟨_, h.1, hK _ _ rfl (Up.on hC h.2) h.2⟩
  refine oC ?_ ?_
  ·intro aa ww hC hp hvar KK hK
   have d93 : aa.tmps.getD 93 undef = .string Y2 := dep_of hp 7 93 (by kernel_rfl)
   have d95 : aa.tmps.getD 95 undef = .string (tx (B16 T4.toNat)) := dep_of hp 9 95 (by kernel_rfl)
   have d93_ := gD d93
   have d95_ := gD d95
   clear hp hvar
   have hno : ¬ 9223372036854775807 < 36 + 2 := by omega
   (unfold opTo; go_simp; try simp only [opUpon])
   rw [← HY3.out]
   exact hK _ _ rfl hC bR
  refine oC ?_ ?_
  ·intro aa ww hC hp hvar KK hK
   have d14 : aa.tmps.getD 14 undef = .string u := hvar 14 (slotOk_spec (by kernel_rfl))
   have d14_ := gD d14
   clear hp hvar
   simp (config := { decide := true }) [go_sem, opTo, opUpon, *]
   exact hK _ _ rfl hC bR
  refine oC ?_ ?_
  ·intro aa ww hC hp hvar KK hK
   have d97 : aa.tmps.getD 97 undef = .string u := dep_of hp 11 97 (by kernel_rfl)
   have d97_ := gD d97
   clear hp hvar
   (unfold opTo; go_simp; try simp only [opUpon])
   rw [← HQ3.out]
   exact hK _ _ rfl hC bR
  refine oC ?_ ?_
  ·intro aa ww hC hp hvar KK hK
   have d96 : aa.tmps.getD 96 undef = .string Y3 := dep_of hp 10 96 (by kernel_rfl)
   have d98 : aa.tmps.getD 98 undef = .string Q3 := dep_of hp 12 98 (by kernel_rfl)
   have d96_ := gD d96
   have d98_ := gD d98
   clear hp hvar
   have hno : ¬ 9223372036854775807 < 38 + Q3.size := by omega
   (unfold opTo; go_simp; try simp only [opUpon])
   rw [← HY4.out]
   exact hK _ _ rfl hC bR
  refine oC ?_ ?_
  ·intro aa ww hC hp hvar KK hK
   have d99 : aa.tmps.getD 99 undef = .string Y4 := dep_of hp 13 99 (by kernel_rfl)
   have d99_ := gD d99
   clear hp hvar
   simp (config := { decide := true }) [go_sem, opTo, opUpon, *]
   exact hK _ _ rfl hC bR
  refine oC ?_ ?_
  ·intro aa ww hC hp hvar KK hK
   clear hp hvar
   simp (config := { decide := true }) [go_sem, opTo, opUpon, *]
   exact hK _ _ rfl hC bR
  exact obligs_nil
 intro vals ww hC hY
 have e0 : vals 0 = .string u := hY 0 _ _ rfl rfl
 have e1 : vals 1 = .string Q1 := hY 1 _ _ rfl rfl
 have e2 : vals 2 = .int .u16 T1 := hY 2 _ _ rfl rfl
 have e3 : vals 3 = .string (tx (B16 T1.toNat)) := hY 3 _ _ rfl rfl
 have e4 : vals 4 = .string Y1 := hY 4 _ _ rfl rfl
 have e5 : vals 5 = .string u := hY 5 _ _ rfl rfl
 have e6 : vals 6 = .string Q2 := hY 6 _ _ rfl rfl
 have e7 : vals 7 = .string Y2 := hY 7 _ _ rfl rfl
 have e8 : vals 8 = .int .u16 T4 := hY 8 _ _ rfl rfl
 have e9 : vals 9 = .string (tx (B16 T4.toNat)) := hY 9 _ _ rfl rfl
 have e10 : vals 10 = .string Y3 := hY 10 _ _ rfl rfl
 have e11 : vals 11 = .string u := hY 11 _ _ rfl rfl
 have e12 : vals 12 = .string Q3 := hY 12 _ _ rfl rfl
 have e13 : vals 13 = .string Y4 := hY 13 _ _ rfl rfl
 have e14 : vals 14 = .string Y4 := hY 14 _ _ rfl rfl
 have e15 : vals 15 = .int .i64 0 := hY 15 _ _ rfl rfl
 clear hY
 simp only [putAll, Act.put, List.setIfInBounds_toArray, List.set_cons_zero, List.set_cons_succ, e0, e1, e2, e3, e4, e5, e6, e7, e8, e9, e10, e11, e12, e13, e14, e15]
 clear e0 e1 e2 e3 e4 e5 e6 e7 e8 e9 e10 e11 e12 e13 e14 e15
 have hu10a := hu9a.on hC
 clear hu9a hC
 generalize ww = w10a at hu10a ⊢

 go_wp2_with fail
 go_ret2
 exact ⟨by rw [HV.out, ← HF.out]; rfl, hu10a⟩
theorem refRewrite (x : ByteArray) (a1 p1 b1 q1 y1 z1 v1 e1 : Nat) (up dn : Int) (w : World) (hx : x.size ≤ 1048576) (hX : WfX ⟨a1, b1, p1, q1, y1, z1, v1, e1, up, dn⟩) (hup : -9223372036854775808 ≤ up ∧ up ≤ 9223372036854775807) (hdn : -9223372036854775808 ≤ dn ∧ dn ≤ 9223372036854775807) :
  Calls Tryz.prog 19 #[.string x, .agg #[.int .u32 a1, .int .u16 p1, .int .u32 b1, .int .u16 q1, .int .u32 y1, .int .u32 z1, .int .u32 v1, .int .u32 e1, .int .i64 up, .int .i64 dn]] w fun e_ w' => e_ = .returned (RWV (L x) ⟨a1, b1, p1, q1, y1, z1, v1, e1, up, dn⟩) ∧ Up w w' := by
 by_cases he : errP (L x) = 0
 ·exact rewrite1 x a1 p1 b1 q1 y1 z1 v1 e1 up dn w hx he hX hup hdn
 ·exact rewrite0 x a1 p1 b1 q1 y1 z1 v1 e1 up dn w hx he
end Go.Proofs.YtafckmbgefbonaaGreat.pk
