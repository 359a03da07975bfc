/- A: contracts, part 6. Condition: as each says. -/
import Derived.Test.YtkgcnmloojnblaaKA4
import Derived.Test.YtkgcnmloojnblaaKA5
import Derived.Maps.OwnSet
import Derived.Maps.OwnOps
import Derived.Laws.StructEq
set_option linter.unusedVariables false
set_option linter.unusedSimpArgs false
namespace Go.Proofs.Ytkgcnmloojnblaa.wlU
open Go.RowKit Go.Shelf Go.Lib Go.ChangeMaps Go.MapKept Go.Proofs.Ytkgcnmloojnblaa.nb Go.Proofs.Ytkgcnmloojnblaa.wh Go.Proofs.Ytkgcnmloojnblaa.wf
set_option linter.unusedVariables false

def okK (k : ByteArray) : Prop := okU k
def KD : TypeDesc := .int .u64
theorem kd : Try.prog.underlying 58 = some KD := Try.underlying58
theorem sameK {a b : ByteArray} (ha : okK a) (hb : okK b) : Instr.sameNow KD (.int .u64 (sz (a))) (.int .u64 (sz (b))) = some (decide (a = b)) := by
  show (if IntKind.u64 = IntKind.u64 then some (sz a == sz b) else none) = _
  rw [if_pos rfl]
  refine congrArg some ?_
  by_cases h : a = b
  · rw [decide_eq_true h, h]; simp
  · rw [decide_eq_false h]
    have : sz a ≠ sz b := fun e => h (by rw [ha.1, hb.1]; unfold sz at e; rw [Int.ofNat_inj.1 e])
    simpa using this
def enr (pb : Nat) (e : MapEntry) (q : ByteArray × Nat) : Prop := e.key = .int .u64 (sz (q.1)) ∧ e.val = pv pb (some q.2) ∧ okK q.1
inductive Ens (pb : Nat) : List MapEntry → List (ByteArray × Nat) → Prop
  | nil : Ens pb [] []
  | cons {e q es l} (h : enr pb e q) (t : Ens pb es l) : Ens pb (e :: es) (q :: l)
theorem Ens.find_no {pb : Nat} {k : ByteArray} (hk : okK k) : ∀ {es : List MapEntry} {l : List (ByteArray × Nat)}, Ens pb es l → (∀ q ∈ l, q.1 ≠ k) → ∀ i, Instr.findNow KD (.int .u64 (sz (k))) es i = some none
  | _, _, .nil, _, i => rfl
  | _, _, .cons (e := e) (q := q) h t, hn, i => by
    have : k ≠ q.1 := fun e => hn q (List.mem_cons_self ..) e.symm
    rw [Instr.findNow, h.1, sameK hk h.2.2, decide_eq_false this]
    exact t.find_no hk (fun q hq => hn q (List.mem_cons_of_mem _ hq)) (i + 1)
theorem Ens.find_at {pb p : Nat} {k : ByteArray} (hk : okK k) : ∀ {A : List (ByteArray × Nat)} {es : List MapEntry} {B : List (ByteArray × Nat)}, Ens pb es (A ++ (k, p) :: B) → (∀ q ∈ A, q.1 ≠ k) → ∀ i, Instr.findNow KD (.int .u64 (sz (k))) es i = some (some (i + A.length, pv pb (some p)))
  | [], _, _, .cons h t, hn, i => by
    rw [Instr.findNow, h.1, sameK hk hk, decide_eq_true rfl, h.2.1]; rfl
  | q :: A, _, _, .cons h t, hn, i => by
    have : k ≠ q.1 := fun e => hn q (List.mem_cons_self ..) e.symm
    rw [Instr.findNow, h.1, sameK hk h.2.2, decide_eq_false this]
    simp only []
    rw [t.find_at hk (fun q hq => hn q (List.mem_cons_of_mem _ hq)) (i + 1), List.length_cons]
    rw [show i + 1 + A.length = i + (A.length + 1) by omega]
theorem Ens.erase {pb : Nat} : ∀ {A : List (ByteArray × Nat)} {es : List MapEntry} {q : ByteArray × Nat} {B : List (ByteArray × Nat)}, Ens pb es (A ++ q :: B) → A.length < es.length ∧ Ens pb (es.eraseIdx A.length) (A ++ B)
  | [], _, _, _, .cons h t => ⟨by simp, t⟩
  | x :: A, _, _, _, .cons h t => by
    obtain ⟨h1, h2⟩ := t.erase
    exact ⟨by simpa using h1, .cons h h2⟩
theorem Ens.snoc {pb : Nat} {e : MapEntry} {q : ByteArray × Nat} (h : enr pb e q) : ∀ {es : List MapEntry} {l : List (ByteArray × Nat)}, Ens pb es l → Ens pb (es ++ [e]) (l ++ [q])
  | _, _, .nil => .cons h .nil
  | _, _, .cons h' t => .cons h' (Ens.snoc h t)
def Mp (w : World) (mb pb : Nat) (l : List (ByteArray × Nat)) : Prop := ∃ es clock, w.heap[mb]? = some (.map es clock) ∧ Ens pb es.toList l ∧ (l.map Prod.fst).Nodup
section
variable {w w' : World} {mb pb : Nat} {l : List (ByteArray × Nat)}
theorem Mp.lt (h : Mp w mb pb l) : mb < w.heap.size := by obtain ⟨es, c, hb, _⟩ := h; exact (Array.getElem?_eq_some_iff.1 hb).1
theorem Mp.only {F : Nat → Prop} (h : Mp w mb pb l) (o : Only F w w') (hF : ¬ F mb) : Mp w' mb pb l := by
  have hl := h.lt
  obtain ⟨es, c, hb, r⟩ := h
  exact ⟨es, c, (o.block mb hl hF).trans hb, r⟩
theorem Mp.up (h : Mp w mb pb l) (u : Up w w') : Mp w' mb pb l := h.only (Only.up (F := fun _ => False) u) id
theorem Mp.new (w : World) (pb : Nat) : Mp (w.alloc (.map #[] 0)) w.heap.size pb [] := ⟨#[], 0, heap_alloc_new w _, .nil, List.nodup_nil⟩
theorem only_block (w : World) (b : Nat) (o : Obj) : Only (fun k => k = b) w (setBlock w b o) :=
  ⟨rfl, rfl, rfl, by simp [setBlock], fun k hk hn => by simp only [setBlock]; rw [Array.getElem?_setIfInBounds_ne (fun e => hn e.symm)]⟩
theorem checkC (b : Bool) (k : ByteArray) (w : World) : (Instr.checkKey b 10000 58 (.int .u64 (sz (k)))).run Try.prog w = .ok () w := by
  rw [show (10000 : Nat) = 9999 + 1 from rfl, Instr.checkKey]
  simp [run_underlying kd, KD, Result.andThen]
theorem zeroP (w : World) : (zeroValue 100).run Try.prog w = .ok (.pointer none) w := by kernel_rfl
abbrev MT : TypeId := 99
theorem mt : Try.prog.underlying MT = some (.map 58 100) := Try.underlying99
theorem Mp.look_no (h : Mp w mb pb l) {k : ByteArray} (hk : okK k) (hn : ∀ q ∈ l, q.1 ≠ k) : (Instr.lookup MT (.map (some mb)) (.int .u64 (sz (k))) false).run Try.prog w = .ok (.pointer none) w := by
  obtain ⟨es, c, hb, he, hd⟩ := h
  have hf := he.find_no hk hn 0
  simp [Instr.lookup, run_underlying mt, MapKept.run_getObj_map hb, checkC, Instr.findKey, run_underlying kd, hf, zeroP, Result.andThen]
theorem Mp.look_at (h : Mp w mb pb l) {k : ByteArray} {p : Nat} (hk : okK k) (hp : (k, p) ∈ l) : (Instr.lookup MT (.map (some mb)) (.int .u64 (sz (k))) false).run Try.prog w = .ok (pv pb (some p)) w := by
  obtain ⟨es, c, hb, he, hd⟩ := h
  obtain ⟨A, B, rfl⟩ := List.append_of_mem hp
  have hA : ∀ q ∈ A, q.1 ≠ k := fun q hq e => by
    rw [List.map_append, List.map_cons] at hd
    exact (List.nodup_append.1 hd).2.2 q.1 (List.mem_map.2 ⟨q, hq, rfl⟩) k (List.mem_cons_self ..) e
  have hf := he.find_at hk hA 0
  simp [Instr.lookup, run_underlying mt, MapKept.run_getObj_map hb, checkC, Instr.findKey, run_underlying kd, hf, Result.andThen]
theorem Mp.drop (h : Mp w mb pb l) {k : ByteArray} {p : Nat} (hk : okK k) (hp : (k, p) ∈ l) (ty : TypeId) : ∃ w' l', (Builtin.delete_ #[MT, 58] ty #[.map (some mb), .int .u64 (sz (k))]).run Try.prog w = .ok (.tuple #[]) w' ∧ Mp w' mb pb l' ∧ l.Perm ((k, p) :: l') ∧ Only (fun k => k = mb) w w' := by
  obtain ⟨es, c, hb, he, hd⟩ := h
  obtain ⟨A, B, rfl⟩ := List.append_of_mem hp
  have hA : ∀ q ∈ A, q.1 ≠ k := fun q hq e => by
    rw [List.map_append, List.map_cons] at hd
    exact (List.nodup_append.1 hd).2.2 q.1 (List.mem_map.2 ⟨q, hq, rfl⟩) k (List.mem_cons_self ..) e
  have hf := he.find_at hk hA 0
  rw [Nat.zero_add] at hf
  obtain ⟨hl, he'⟩ := he.erase
  have hjs : A.length < es.size := by simpa using hl
  have hsub : (es.eraseIdxIfInBounds A.length).toList = es.toList.eraseIdx A.length := by
    unfold Array.eraseIdxIfInBounds
    rw [dif_pos hjs]
    simp
  refine ⟨setBlock w mb (.map (es.eraseIdxIfInBounds A.length) c), A ++ B, ?_, ⟨_, c, heap_setBlock_same hb _, by rw [hsub]; exact he', ?_⟩, List.perm_middle, only_block w mb _⟩
  · simp [Builtin.delete_, run_underlying mt, MapKept.run_getObj_map hb, checkC, Instr.findKey, run_underlying kd, hf, MapKept.run_setObj_map _ hb, Result.andThen, setBlock]
  · rw [List.map_append, List.map_cons] at hd
    obtain ⟨h1, h2, h3⟩ := List.nodup_append.1 hd
    rw [List.map_append]
    exact List.nodup_append.2 ⟨h1, (List.nodup_cons.1 h2).2, fun a ha b hb => h3 a ha b (List.mem_cons_of_mem _ hb)⟩
theorem Mp.put (h : Mp w mb pb l) {k : ByteArray} (p : Nat) (hk : okK k) (hn : ∀ q ∈ l, q.1 ≠ k) : ∃ w', (Instr.mapUpdate MT (.map (some mb)) (.int .u64 (sz (k))) (pv pb (some p))).run Try.prog w = .ok () w' ∧ Mp w' mb pb (l ++ [(k, p)]) ∧ Only (fun k => k = mb) w w' := by
  obtain ⟨es, c, hb, he, hd⟩ := h
  have hf := he.find_no hk hn 0
  refine ⟨setBlock w mb (.map (es.push { key := .int .u64 (sz (k)), val := pv pb (some p), born := c }) (c + 1)), ?_, ⟨_, _, heap_setBlock_same hb _, ?_, ?_⟩, only_block w mb _⟩
  · simp [Instr.mapUpdate, run_underlying mt, MapKept.run_getObj_map hb, checkC, Instr.findKey, run_underlying kd, hf, MapKept.run_setObj_map _ hb, Result.andThen, setBlock]
  · rw [Array.toList_push]; exact Ens.snoc ⟨rfl, rfl, hk⟩ he
  · rw [List.map_append]
    exact List.nodup_append.2 ⟨hd, by simp, fun a ha b hb e => by
      obtain ⟨q, hq, rfl⟩ := List.mem_map.1 ha
      simp at hb
      exact hn q hq (e.trans hb)⟩
end
/-! ### at the operation -/
section
variable (w : World) {ops : Array Oper} {rest : List Oper} {o : Oper} {a : Act} {Q : Exit → Act → World → Prop}
theorem wpl_look {v : Value} {mb : Nat} {k : ByteArray} (hg : o.guard = none) (m x : Operand) (hop : o.op = Op.lookup MT m x false) (hm : a.eval m = .map (some mb)) (hx : a.eval x = .int .u64 (sz (k)))
    (hrun : (Instr.lookup MT (.map (some mb)) (.int .u64 (sz (k))) false).run Try.prog w = .ok v w) (hK : wpList Try.prog ops Q rest (a.put o.dst v) w) : wpList Try.prog ops Q (o :: rest) a w := by
  refine wpList_plain hg fun K' hK' => ?_
  unfold Oper.wp
  simp [execOp, hop, hm, hx, hrun, Result.andThen]
  exact hK' _ _ hK
theorem wpl_put {mb pb : Nat} {l : List (ByteArray × Nat)} {k : ByteArray} (p : Nat) (h : Mp w mb pb l) (hk : okK k) (hn : ∀ q ∈ l, q.1 ≠ k) (hg : o.guard = none) (m x v : Operand) (hop : o.op = Op.mapUpdate MT m x v) (hm : a.eval m = .map (some mb)) (hx : a.eval x = .int .u64 (sz (k))) (hv : a.eval v = pv pb (some p))
    (hK : ∀ w', Mp w' mb pb (l ++ [(k, p)]) → Only (fun k => k = mb) w w' → wpList Try.prog ops Q rest (a.put o.dst undef) w') : wpList Try.prog ops Q (o :: rest) a w := by
  refine wpList_plain hg fun K' hK' => ?_
  obtain ⟨w', hrun, r1, r2⟩ := h.put p hk hn
  unfold Oper.wp
  simp [execOp, hop, hm, hx, hv, hrun, Result.andThen]
  exact hK' _ _ (hK w' r1 r2)
end
end Go.Proofs.Ytkgcnmloojnblaa.wlU
