/- P O A N: contracts, part 12. Condition: as each says. -/
import Derived.Test.YtkgcnmloojnblaaKPOAN11
import Derived.WalkMore
set_option linter.unusedVariables false
set_option linter.unusedSimpArgs false
namespace Go.Proofs.Ytkgcnmloojnblaa.wlS
open Go.RowKit Go.Shelf Go.Lib Go.Proofs.Ytkgcnmloojnblaa.nb Go.Proofs.Ytkgcnmloojnblaa.ck Go.Proofs.Ytkgcnmloojnblaa.wh Go.Proofs.Ytkgcnmloojnblaa.wf
set_option linter.unusedVariables false

def OwnP (w : World) (B : Nat) (v : Value) (pb : Nat) (ls : List Nat) : Prop := w.ownsRow B 73 1 v ls.length (ls.map (fun p => pv pb (some p)))
theorem infoP : (Try.prog.info? 73).map (fun i => (i.zero, i.size, i.bytes)) = some (some (.pointer none), 1, 8) := by kernel_rfl
section
variable {ops : Array Oper} {rest : List Oper} {o : Oper} {a : Act} {Q : Exit → Act → World → Prop} {w w' : World} {B pb : Nat} {v : Value} {ls : List Nat}
theorem OwnP.nil_ (w : World) (B pb : Nat) : OwnP w B (.slice none 0 0) pb [] := World.ownsRow_nil _ _ _ _
theorem OwnP.at_ (h : OwnP w B v pb ls) {k : Nat} (hk : k < ls.length) : ∃ g cap p, v = .slice (some ⟨g, 0, none⟩) ls.length cap ∧ w.cell? ⟨g, k, none⟩ = some (.pointer (some ⟨pb, p * 4, none⟩)) ∧ Hid (ls[k]? = some p) := by
  rcases own_form h with ⟨rfl, hn⟩ | ⟨g, cap, rfl, hB, hg, h1, h2⟩
  · exact absurd hk (by omega)
  · have := World.ownsRow.cells h (g := g) rfl k (pv pb (some ls[k])) (by rw [List.getElem?_map, List.getElem?_eq_getElem hk]; rfl)
    rw [show (⟨g, 0, none⟩ : Addr).add k = ⟨g, k, none⟩ by unfold Addr.add; split <;> simp_all] at this
    exact ⟨g, cap, ls[k], rfl, this, List.getElem?_eq_getElem hk⟩
theorem OwnP.slice (h : OwnP w B v pb ls) : ∃ A n c, v = .slice A n c ∧ Hid (n = ls.length) := by
  rcases own_form h with ⟨rfl, hn⟩ | ⟨g, cap, rfl, _⟩
  · exact ⟨none, 0, 0, rfl, hn.symm⟩
  · exact ⟨_, _, _, rfl, rfl⟩
theorem OwnP.only {F : Nat → Prop} (h : OwnP w B v pb ls) (o : Only F w w') (hF : ∀ k, RowF v k → ¬ F k) : OwnP w' B v pb ls := own_only h o hF
theorem OwnP.up (h : OwnP w B v pb ls) (u : Up w w') : OwnP w' B v pb ls := own_only h (Only.up (F := fun _ => False) u) (fun _ _ => id)
theorem appP (s x : Operand) (g p : Nat) (hown : OwnP w B v pb ls) (hgd : o.guard = none) (ho : o.op = .call { callee := .builtin .append, args := #[s, x], argTypes := #[91, 91] })
    (hs : a.eval s = v) (hx : a.eval x = .slice (some ⟨g, 0, none⟩) 1 1) (hc : w.cell? ⟨g, 0, none⟩ = some (.pointer (some ⟨pb, p * 4, none⟩))) (hn : ls.length < 1099511627776) (hB : B ≤ w.heap.size)
    (h : ∀ v' w', OwnP w' B v' pb (ls ++ [p]) → Only (RowF v) w w' → (∀ k, RowF v' k → RowF v k ∨ w.heap.size ≤ k) → wpList Try.prog ops Q rest (a.put o.dst v') w') : wpList Try.prog ops Q (o :: rest) a w := by
  obtain ⟨i0, hi, hz0, hz1, hz2⟩ := info_parts infoP
  refine wpList_append_own_at (w := w) hgd s x 91 ho B 73 i0 (.pointer none) 1 8 Try.underlying91 hi hz0 hz1 hz2 rfl (by decide) v ls.length _ hs hown ⟨g, 0, none⟩ 1 1 [.pointer (some ⟨pb, p * 4, none⟩)] hx rfl ?_ (fun u hu => by simp at hu; subst hu; rfl) (by unfold maxLen; omega) (by omega) hB ?_
  · intro j u' hj
    match j, hj with
    | 0, hj => cases hj; exact hc
  · intro v' w' ho' hg _ hat
    have hO : OwnP w' B v' pb (ls ++ [p]) := by unfold OwnP; rw [List.map_append, List.length_append]; exact ho'
    refine h v' w' hO ((Only.refl _ _).grown hg fun k hk => .inl hk) fun k hk => ?_
    rcases hat with e | e
    · exact .inl (e.symm.trans hk)
    · have : some k = some w.heap.size := hk.symm.trans e
      cases this
      exact .inr (Nat.le_refl _)
end
structure Rc (w0 : World) (b pb cb mb m u : Nat) (S : Nat → List Nat) (T : Nat → Tm) (l : List (ByteArray × Nat)) (fr : List Nat) (n : Int) (v : Value) (wr : World) (sc : Nat) (A B : List Nat) (L : Lks) : Prop where
  lw : Lw wr b pb cb mb m (u : Int) n T L l fr
  lk : LinkOk (Sq S sc B) L
  all : S sc = A ++ B
  own : OwnP wr w0.heap.size v pb (bel S sc ++ A)
  only : Only (WF4 b pb cb mb) w0 wr
set_option maxHeartbeats 8000000 in
set_option maxRecDepth 100000 in
theorem reachedC {b pb cb mb m u : Nat} {S : Nat → List Nat} {T : Nat → Tm} {L : Lks} {l : List (ByteArray × Nat)} {fr : List Nat} {xs : List Tm} {w : World} (t : Nat) (h : LI w b pb cb mb m u S T L l fr xs) (ht : t ≤ 17592186044416) :
    Calls Try.prog 35 #[.pointer (some ⟨b, 0, none⟩), .int .i64 t] w fun e w' => ∃ v L', e = .returned v ∧ Rc w b pb cb mb m u S T l fr (xs.length : Int) v w' (slot u t) (S (slot u t)) [] L' := by
  have hz := slot_bound h.wi.nowle ht
  have C1 := Lib.hid (fun w => spotC u t h.wi.nowle ht w)
  obtain ⟨lv, hlv⟩ : ∃ lv, lv = level u t := ⟨_, rfl⟩
  obtain ⟨d, hd⟩ : ∃ d, d = t / 32 ^ level u t % 32 := ⟨_, rfl⟩
  have hsl : slot u t = 32 * lv + d := by rw [hlv, hd]; rfl
  have hlv8 : lv ≤ 8 := by rw [hlv]; exact level_bound h.wi.nowle ht
  have hd32 : d < 32 := by rw [hd]; exact Nat.mod_lt _ (by decide)
  rw [← hd, ← hlv] at C1
  rw [hsl]
  have c0 := h.lw.mem.c_now
  have HH := Lib.hid h
  have R0 := Lib.hid (show Rc w b pb cb mb m u S T l fr (xs.length : Int) (.slice none 0 0) w 0 [] (S 0) L from ⟨h.lw, by rw [Sq.start]; exact h.wi.lk, rfl, OwnP.nil_ _ _ _, Only.refl _ _⟩)
  have ML := Lib.hid (fun sc (hsc : sc ≤ 288) => Nat.le_trans (bel_len S hsc) (by have h1 := h.wi.len; have h2 := h.wi.len2; have h3 := h.mle; omega : (allP S).length ≤ 4096))
  clear h hz hlv hd hsl ht
  go_enter Try.func35, Try.ntmps35
  go_wp2_with fail
  go_step3
  go_wp2_with fail
  refine (C1.out _).mono ?_
  rintro e w1 ⟨rfl, u1⟩
  go_wp2_with fail
  go_step3
  go_wp2_with fail
  go_loopw [5, 20] (fun v z wr => ∃ (up : Nat) (L' : Lks), z = .int .i64 up ∧ 32 * up ≤ 32 * lv + d ∧ Rc w b pb cb mb m u S T l fr (xs.length : Int) v wr (32 * up) [] (S (32 * up)) L') (fun _ z _ => 9 - (RowKit.intOf z).toNat)
  case atStart => exact ⟨0, L, rfl, Nat.zero_le _, ⟨R0.out.lw.up u1, R0.out.lk, R0.out.all, R0.out.own.up u1, R0.out.only.on u1⟩⟩
  case round =>
  clear c0 R0
  obtain ⟨up, L1, rfl, hup, q⟩ := hrel
  have I := Lib.hid q
  obtain ⟨A1, nA1, cA1, rfl, _⟩ := q.own.slice
  clear q
  have hup9 : up < 9 := by omega
  have D1 : decide ((up : Int) < 9) = true := decide_eq_true (by omega)
  go_wp2_with fail
  go_loopw [5, 23] (fun v z wq => ∃ (i : Nat) (L' : Lks), z = .int .i64 i ∧ i ≤ 32 ∧ 32 * up + i ≤ 32 * lv + d ∧ Rc w b pb cb mb m u S T l fr (xs.length : Int) v wq (32 * up + i) [] (S (32 * up + i)) L') (fun _ z _ => 32 - (RowKit.intOf z).toNat)
  case atStart => exact ⟨0, L1, rfl, by omega, hup, I.out⟩
  case round =>
  clear I
  obtain ⟨i, L2, rfl, hi32, hile, q⟩ := hrel
  have I := Lib.hid q
  obtain ⟨A2, nA2, cA2, rfl, _⟩ := q.own.slice
  clear q
  by_cases hi : i < 32
  case neg =>
    obtain rfl : i = 32 := by omega
    have W1 : IntKind.i64.wrap ((up : Int) + 1) = (up : Int) + 1 := by rw [IntKind.wrap_i64]; omega
    go_wp2
    go_roundw
    case rel => exact ⟨up + 1, L2, by go_num, by omega, by rw [show 32 * (up + 1) = 32 * up + 32 by omega]; exact I.out⟩
    case measure => simp [RowKit.intOf]; omega
  have D2 : decide ((i : Int) < 32) = true := decide_eq_true (by omega)
  obtain ⟨sc, hsc⟩ : ∃ sc, sc = 32 * up + i := ⟨_, rfl⟩
  have HS := Lib.hid (show 4 + up * 64 + i * 2 = sc * 2 + 4 by omega)
  rw [← hsc] at I
  have hs288 : sc < 288 := by omega
  have HSC := Lib.hid hsc
  have K4 := Lib.hid (show (bel S sc).length + (S sc).length ≤ 4096 by have := ML.out (sc + 1) (by omega); rw [bel_succ, List.length_append] at this; exact this)
  clear hsc
  go_wp2_with fail
  rw [HS.out]
  go_loopw [5] (fun v wq => ∃ (A B : List Nat) (L' : Lks), Rc w b pb cb mb m u S T l fr (xs.length : Int) v wq sc A B L') (fun v _ => (bel S sc).length + (S sc).length + 1 - lenV v)
  case atStart => exact ⟨[], _, L2, I.out⟩
  case round =>
  clear I
  obtain ⟨A, B, L3, q⟩ := hrel
  have I := Lib.hid q
  obtain ⟨A3, nA3, cA3, rfl, HN3⟩ := q.own.slice
  have c1 := q.lw.mem.c_fi hs288
  rw [q.lk.fi, Sq.at_] at c1
  clear q
  rcases B with _ | ⟨p, B'⟩
  · replace c1 : wr.cell? ⟨b, sc * 2 + 4, none⟩ = some (.pointer none) := c1
    have FIN := Lib.hid (show ∀ w', Up wr w' → Rc w b pb cb mb m u S T l fr (xs.length : Int) _ w' sc (S sc) [] L3 from fun w' hu => by
      have h := I.out
      have e : A = S sc := by rw [h.all, List.append_nil]
      subst e
      exact ⟨h.lw.up hu, h.lk, h.all, h.own.up hu, h.only.on hu⟩)
    by_cases c2 : up = lv
    · subst c2
      by_cases c3 : i = d
      · subst c3
        go_wp2
        try rw [Exit.noGoto_ret]
        go_ret
        exact ⟨_, _, rfl, by rw [← HSC.out]; exact FIN.out _ (Below.refl _ _)⟩
      · have c3' : ((i : Int) == (d : Int)) = false := by simp; omega
        have W1 : IntKind.i64.wrap ((i : Int) + 1) = (i : Int) + 1 := by rw [IntKind.wrap_i64]; omega
        go_wp2
        go_roundw
        case rel => exact ⟨i + 1, L3, by go_num, by omega, by omega, by
          have h := FIN.out _ (Below.refl _ _)
          have e : 32 * up + (i + 1) = sc + 1 := by have := HSC.out; omega
          rw [e]
          exact ⟨h.lw, by rw [← Sq.next]; exact h.lk, rfl, by have := h.own; rw [List.append_nil, bel_succ]; exact this, h.only⟩⟩
        case measure => simp [RowKit.intOf]; omega
    · have c2' : ((up : Int) == (lv : Int)) = false := by simp; omega
      have W1 : IntKind.i64.wrap ((i : Int) + 1) = (i : Int) + 1 := by rw [IntKind.wrap_i64]; omega
      go_wp2
      go_roundw
      case rel => exact ⟨i + 1, L3, by go_num, by omega, by omega, by
        have h := FIN.out _ (Below.refl _ _)
        have e : 32 * up + (i + 1) = sc + 1 := by have := HSC.out; omega
        rw [e]
        exact ⟨h.lw, by rw [← Sq.next]; exact h.lk, rfl, by have := h.own; rw [List.append_nil, bel_succ]; exact this, h.only⟩⟩
      case measure => simp [RowKit.intOf]; omega
  replace c1 : wr.cell? ⟨b, sc * 2 + 4, none⟩ = some (.pointer (some ⟨pb, p * 4, none⟩)) := c1
  have hbl := I.out.lw.mem.wb.lt
  have hB0 := I.out.only.size
  have LB := Lib.hid (show (bel S sc ++ A).length < 1099511627776 by have := K4.out; have e := congrArg List.length I.out.all; rw [List.length_append] at e ⊢; omega)
  go_upto_region 12 with (at_builtin; refine appP (.tmp 38) (.tmp 43) wr.heap.size p (I.out.own.up (up_al _ (Below.refl _ _))) rfl rfl rfl rfl ((Box.new wr #[.pointer (some ⟨pb, p * 4, none⟩)] _).at 0 rfl) LB.out (by simp; omega) ?_; intro v2 w2 hO2 ho2 hs2)
  have uu : Up wr (wr.alloc (.cells #[.pointer (some ⟨pb, p * 4, none⟩)] 73)) := up_al _ (Below.refl _ _)
  have hap : ∀ k, RowF (.slice A3 nA3 cA3) k → ¬ WF4 b pb cb mb k := fun k hk hw => by
    have h1 := (own_lt I.out.own k hk).1
    have h2 := HH.out.lw.lt k hw
    omega
  have L4 := Lib.hid ((I.out.lw.up uu).only ho2 (fun k hk hr => hap k hr hk))
  have O4 := Lib.hid ((I.out.only.on uu).trans ho2 (fun k hk => .inr (own_lt I.out.own k hk).1))
  have W4 := Lib.hid hO2
  obtain ⟨A4, nA4, cA4, rfl, HN4⟩ := hO2.slice
  have AP4 := Lib.hid (show ∀ k, RowF (.slice A4 nA4 cA4) k → ¬ WF4 b pb cb mb k from fun k hk hw => by
    have h1 := (own_lt W4.out k hk).1
    have h2 := HH.out.lw.lt k hw
    omega)
  have CL := Lib.hid (leaveC (p := p) (A := []) (B := B') L4.out.mem I.out.lk (fun s x hx => by
    have : x ∈ S s := by
      unfold Sq at hx
      split at hx
      · cases hx
      · split at hx
        · rename_i h; rw [h, I.out.all]; exact List.mem_append_right _ hx
        · exact hx
    exact HH.out.wi.lt s x this) hs288 (Sq.at_ S sc _))
  have LK := Lib.hid (show LinkOk (Sq S sc B') (L3.leave sc p) by
    have := I.out.lk.leave (A := []) (B := B') (p := p) (s := sc) (Sq.at_ S sc (p :: B'))
    rwa [List.nil_append, Sq.upd_] at this)
  have c4 := L4.out.mem.c_fi hs288
  rw [I.out.lk.fi, Sq.at_] at c4
  replace c4 : w2.cell? ⟨b, sc * 2 + 4, none⟩ = some (.pointer (some ⟨pb, p * 4, none⟩)) := c4
  have hz2 := Lib.hid (show w.heap.size ≤ w2.heap.size from O4.out.size)
  clear hO2 ho2 hs2 uu hap c1 hbl hB0
  go_wp2_with fail
  refine CL.out.mono ?_
  rintro e w3 ⟨rfl, m3, o3⟩
  have L5 := Lib.hid (L4.out.mem_ m3 o3)
  have O5 := Lib.hid o3
  clear m3 o3 c4
  go_wp2
  go_roundw
  case rel =>
    refine ⟨A ++ [p], B', L3.leave sc p, ?_⟩
    exact ⟨L5.out, LK.out, by rw [I.out.all]; simp, by have := W4.out.only O5.out (fun k hk hw => AP4.out k hk (wf_4 k hw)); rwa [List.append_assoc] at this, O4.out.trans (O5.out.mono wf_4) (fun k => .inl)⟩
  case measure =>
    show (bel S sc).length + (S sc).length + 1 - nA4 < (bel S sc).length + (S sc).length + 1 - nA3
    have h1 := HN3.out; have h2 := HN4.out; have h3 := congrArg List.length I.out.all
    simp at h1 h2 h3; omega
end Go.Proofs.Ytkgcnmloojnblaa.wlS
