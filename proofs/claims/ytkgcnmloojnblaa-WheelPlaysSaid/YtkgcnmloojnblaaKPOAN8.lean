/- P O A N: contracts, part 8. Condition: as each says. -/
import Derived.Test.YtkgcnmloojnblaaKPOAN1
import Derived.Conc.LoneSelectN
import Derived.Conc.LoneSelect
set_option linter.unusedVariables false
set_option linter.unusedSimpArgs false
namespace Go.Proofs.Ytkgcnmloojnblaa.nb
open Go.RowKit Go.Conc
set_option linter.unusedVariables false

def Arr (P : Program) (ops : Array Oper) (Q : Exit → Act → World → Prop) (l : List Nat) (a : Act) (w : World) : Prop :=
  ∀ (b : Frame) (k : List Item) (cs : List Frame), ∃ e a' w', Q e a' w' ∧ Arrives P (lone (b.at a (.inRegion ops l :: k)) cs w) b k cs e a' w'
section
variable {P : Program} {ops : Array Oper} {Q : Exit → Act → World → Prop} {a : Act} {w w1 w2 : World} {i id : Nat} {rest : List Nat} {o : Oper} {v : Value}
theorem wp_region_arr (h : Arr P ops Q (List.range ops.size) a w) : (Code.region id ops false).wp P Q a w := fun b k cs =>
  let ⟨e, a', w', q, r⟩ := h b k cs; ⟨e, a', w', q, .of_steps (.one step_region) r⟩
theorem Arr.val (ho : ops[i]? = some o) (hw : Region.wanted o (yielded ops a.tmps) = true) (hr : (execOp a.eval o).run P w = .ok (.value v) w1) (h : Arr P ops Q rest (a.put o.dst v) w1) : Arr P ops Q (i :: rest) a w := fun b k cs => by
  obtain ⟨e, a', w', q, r⟩ := h b k cs
  refine ⟨e, a', w', q, .of_steps (.one (step_lone_go ?_)) r⟩
  have hfin : (b.at a (.inRegion ops (i :: rest) :: k)).finish v = b.at (a.put o.dst v) (.inRegion ops rest :: k) := by rw [Frame.finish_at, ho]; rfl
  rw [stepG_op ho hw, ← hfin]
  simp [stepG.apply, hr]
def CommTo (P : Program) (cases : Array CommCase) (blocking : Bool) (shape : CommShape) (w1 : World) (v : Value) (w2 : World) : Prop :=
  ∀ (fr : Frame) (cs : List Frame) (es : Array Event) (w : World), stepG P true (G fr cs) w = .comm (G fr cs) cases blocking shape w1 es → step P (solo (G fr cs) w) = .next (solo (G (fr.finish v) cs) w2)
theorem Arr.comm {cases : Array CommCase} {blocking : Bool} {shape : CommShape} (ho : ops[i]? = some o) (hw : Region.wanted o (yielded ops a.tmps) = true) (hr : (execOp a.eval o).run P w = .ok (.comm cases blocking shape) w1) (hc : CommTo P cases blocking shape w1 v w2)
    (h : Arr P ops Q rest (a.put o.dst v) w2) : Arr P ops Q (i :: rest) a w := fun b k cs => by
  obtain ⟨e, a', w', q, r⟩ := h b k cs
  have hs : ∃ es, stepG P true (G (b.at a (.inRegion ops (i :: rest) :: k)) cs) w = .comm (G (b.at a (.inRegion ops (i :: rest) :: k)) cs) cases blocking shape w1 es := by
    rw [stepG_oper ho hw]
    simp [stepG.apply, hr, G, GStep.after]
  obtain ⟨es, hs⟩ := hs
  have h1 := hc _ _ _ _ hs
  have hfin : (b.at a (.inRegion ops (i :: rest) :: k)).finish v = b.at (a.put o.dst v) (.inRegion ops rest :: k) := by rw [Frame.finish_at, ho]; rfl
  rw [hfin] at h1
  exact ⟨e, a', w', q, .of_steps (.one h1) r⟩
theorem Arr.walk (h : wpOps P ops Q rest a w) : Arr P ops Q rest a w := fun b k cs => wp_ops rest a w h b k cs
theorem Arr.list (n : Nat) (hl : List.range' n (ops.toList.drop n).length = rest) (h : wpList P ops Q (ops.toList.drop n) a w) : Arr P ops Q rest a w := by
  subst hl
  refine Arr.walk ?_
  rw [wpOps_eq_wpList (ops.toList.drop n) n (fun j => by rw [List.getElem?_drop, Array.getElem?_toList])]
  exact h
theorem wp_region_comm0 {l : List Oper} {cases : Array CommCase} {blocking : Bool} {shape : CommShape} (hw : Region.wanted o (yielded (o :: l).toArray a.tmps) = true) (hr : (execOp a.eval o).run P w = .ok (.comm cases blocking shape) w1) (hc : CommTo P cases blocking shape w1 v w2)
    (h : wpList P (o :: l).toArray Q l (a.put o.dst v) w2) : (Code.region id (o :: l).toArray false).wp P Q a w := by
  refine wp_region_arr ?_
  rw [show ((o :: l).toArray).size = l.length + 1 by simp, List.range_eq_range', List.range'_succ]
  exact Arr.comm (by simp) hw hr hc (Arr.list 1 (by simp) (by simpa using h))
theorem wp_region_comm5 {o0 o1 o2 o3 o4 o5 : Oper} {v0 v1 v2 v3 v4 : Value} {cases : Array CommCase} {blocking : Bool} {shape : CommShape}
    (h0 : Region.wanted o0 (yielded #[o0, o1, o2, o3, o4, o5] a.tmps) = true) (r0 : (execOp a.eval o0).run P w = .ok (.value v0) w)
    (h1 : Region.wanted o1 (yielded #[o0, o1, o2, o3, o4, o5] (a.put o0.dst v0).tmps) = true) (r1 : (execOp (a.put o0.dst v0).eval o1).run P w = .ok (.value v1) w)
    (h2 : Region.wanted o2 (yielded #[o0, o1, o2, o3, o4, o5] ((a.put o0.dst v0).put o1.dst v1).tmps) = true) (r2 : (execOp ((a.put o0.dst v0).put o1.dst v1).eval o2).run P w = .ok (.value v2) w)
    (h3 : Region.wanted o3 (yielded #[o0, o1, o2, o3, o4, o5] (((a.put o0.dst v0).put o1.dst v1).put o2.dst v2).tmps) = true) (r3 : (execOp (((a.put o0.dst v0).put o1.dst v1).put o2.dst v2).eval o3).run P w = .ok (.value v3) w)
    (h4 : Region.wanted o4 (yielded #[o0, o1, o2, o3, o4, o5] ((((a.put o0.dst v0).put o1.dst v1).put o2.dst v2).put o3.dst v3).tmps) = true) (r4 : (execOp ((((a.put o0.dst v0).put o1.dst v1).put o2.dst v2).put o3.dst v3).eval o4).run P w = .ok (.value v4) w)
    (h5 : Region.wanted o5 (yielded #[o0, o1, o2, o3, o4, o5] (((((a.put o0.dst v0).put o1.dst v1).put o2.dst v2).put o3.dst v3).put o4.dst v4).tmps) = true) (r5 : (execOp (((((a.put o0.dst v0).put o1.dst v1).put o2.dst v2).put o3.dst v3).put o4.dst v4).eval o5).run P w = .ok (.comm cases blocking shape) w1)
    (hc : CommTo P cases blocking shape w1 v w2) (h : Q .normal ((((((a.put o0.dst v0).put o1.dst v1).put o2.dst v2).put o3.dst v3).put o4.dst v4).put o5.dst v) w2) : (Code.region id #[o0, o1, o2, o3, o4, o5] false).wp P Q a w := by
  refine wp_region_arr ?_
  show Arr P _ Q [0, 1, 2, 3, 4, 5] a w
  refine Arr.val rfl h0 r0 (Arr.val rfl h1 r1 (Arr.val rfl h2 r2 (Arr.val rfl h3 r3 (Arr.val rfl h4 r4 (Arr.comm rfl h5 r5 hc (Arr.walk ?_))))))
  exact h
end
/-! ### the communications -/
section
variable {P : Program} {w : World} {c cap s r : Nat} {buf : List Value} {x z z' v : Value}
theorem comm_send (hc : w.heap[c]? = some (.chan cap buf.toArray false s r false)) (hroom : buf.length < cap) : CommTo P #[scase c v z'] true .send w undef (w.setChan c cap (buf ++ [v]).toArray false (s + 1) r false) := fun fr cs es w0 h => by
  have := step_lone_send_room (z' := z') h hc (by simpa using hroom)
  rwa [show buf.toArray.push v = (buf ++ [v]).toArray by simp] at this
theorem comm_sel (hc : w.heap[c]? = some (.chan cap (x :: buf).toArray false s r false)) : CommTo P #[rcase c z] false .select w (.tuple #[.int .i64 0, .bool true, x]) (w.setChan c cap buf.toArray false s (r + 1) false) := fun fr cs es w0 h => by
  have := step_lone_select_recv_buf h hc (by simp)
  rwa [show (x :: buf).toArray.extract 1 (x :: buf).toArray.size = buf.toArray by simp, show (x :: buf).toArray.getD 0 undef = x by simp] at this
theorem comm_none (hc : w.heap[c]? = some (.chan cap (([] : List Value).toArray) false s r false)) : CommTo P #[rcase c z] false .select w (.tuple #[.int .i64 (-1), .bool false, z]) w := fun fr cs es w0 h => step_lone_select_default h hc
end
/-! ### a channel's block -/
def Chan (w : World) (c cap : Nat) (buf : List Value) : Prop := ∃ s r, w.heap[c]? = some (.chan cap buf.toArray false s r false)
section
variable {w w' : World} {c cap : Nat} {buf : List Value}
theorem Chan.lt (h : Chan w c cap buf) : c < w.heap.size := by obtain ⟨s, r, h⟩ := h; exact (Array.getElem?_eq_some_iff.1 h).1
theorem Chan.only {G : Nat → Prop} (h : Chan w c cap buf) (o : Only G w w') (hG : ¬ G c) : Chan w' c cap buf := by
  have hl := h.lt
  obtain ⟨s, r, h⟩ := h
  exact ⟨s, r, (o.block c hl hG).trans h⟩
theorem Chan.up (h : Chan w c cap buf) (u : Up w w') : Chan w' c cap buf := h.only (Only.up (F := fun _ => False) u) id
theorem only_chan (w : World) (c cap : Nat) (b : Array Value) (cl : Bool) (s r : Nat) (tm : Bool) : Only (fun k => k = c) w (w.setChan c cap b cl s r tm) :=
  ⟨rfl, rfl, rfl, by simp [World.setChan], fun k hk hn => by simp only [World.setChan]; rw [Array.getElem?_setIfInBounds_ne (fun e => hn e.symm)]⟩
theorem Chan.set (h : c < w.heap.size) (b : List Value) (s r : Nat) : Chan (w.setChan c cap b.toArray false s r false) c cap b := ⟨s, r, heap_setChan w c cap b.toArray false s r false h⟩
theorem Chan.new (w : World) (cap : Nat) : Chan (w.alloc (.chan cap #[] false 0 0 false)) w.heap.size cap [] := ⟨0, 0, heap_alloc_new w _⟩
end
end Go.Proofs.Ytkgcnmloojnblaa.nb
