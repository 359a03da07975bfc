/- H: contracts, part 3. Condition: as each says. -/
import Derived.Test.YtafckmbgefbonaaKHA1
set_option linter.unusedVariables false
set_option linter.unusedSimpArgs false
namespace Go.Proofs.Ytafckmbgefbonaa.nb
open Go.RowKit Go.Shelf Go.Proofs.Ytafckmbgefbonaa.sm
set_option linter.unusedVariables false

def nums (x : ByteArray) : List Int := (L x).map fun c => (c.toNat : Int)
theorem nums_len (x : ByteArray) : (nums x).length = x.size := by rw [nums, List.length_map, L_len]
theorem conv_in (x : ByteArray) (w : World) : ∃ (cap : Nat) (W : World), (convert 9 44 (.string x)).run Try.prog w = .ok (.slice (some ⟨w.heap.size, 0, none⟩) x.size cap) W ∧ Up w W ∧ Row W w.heap.size (nums x) := by
  refine ⟨_, _, run_bytes_of_string w 9 44 5 x Try.underlying9 Try.underlying44 Try.underlying5, up_al _ (up_dr (Below.refl _ _)), fun i hi => ?_⟩
  rw [nums_len] at hi
  have hb : (w.drew.alloc (.cells (bytesRow x (grownCap w x.size 0 5)) 5 ((bytesRow x (grownCap w x.size 0 5)).size, (bytesRow x (grownCap w x.size 0 5)).size + 1))).heap[w.heap.size]? =
    some (.cells (bytesRow x (grownCap w x.size 0 5)) 5 ((bytesRow x (grownCap w x.size 0 5)).size, (bytesRow x (grownCap w x.size 0 5)).size + 1)) := World.alloc_heap_new w.drew _
  generalize grownCap w x.size 0 5 = c at *
  have hz : x.size ≤ (bytesRow x c).size := by unfold bytesRow; rw [Array.size_append, Array.size_map]; show x.data.size ≤ _; omega
  refine ⟨?_, ?_⟩
  · simp only [World.cell?, hb]
    show (bytesRow x c)[i]? = _
    have h1 : i < (x.data.map (fun b => Value.int .u8 b.toNat)).size := by rw [Array.size_map]; exact hi
    have h2 : i < (L x).length := hi
    unfold bytesRow
    rw [Array.getElem?_append_left h1, Array.getElem?_eq_getElem h1, Array.getElem_map, nums, List.getD, List.getElem?_map, List.getElem?_eq_getElem h2]
    rfl
  · simp only [World.frozen?, hb]
    simp
    omega
theorem row_back0 {W : World} {B : Nat} {xs : List Int} (h : Row W B xs) (n cap : Nat) (hn : xs.length = n) : (convert 44 9 (.slice (some ⟨B, 0, none⟩) n cap)).run Try.prog W = .ok (.string (strOfNums xs)) W :=
  run_convert_bytes_arg _ 44 5 Try.underlying44 Try.underlying5 B 0 n cap xs hn (fun i hi => by rw [Nat.zero_add]; exact (h i (by omega)).1) 9 Try.underlying9
theorem xor_one (n : Nat) : n ^^^ 1 = n + 1 ∨ (n ^^^ 1) + 1 = n := by
  have h1 : (n ^^^ 1) / 2 = n / 2 := by have := Nat.xor_div_two_pow (a := n) (b := 1) (n := 1); simpa using this
  have h2 : (n ^^^ 1) % 2 = (n % 2) ^^^ 1 := by have := Nat.xor_mod_two_pow (a := n) (b := 1) (n := 1); simpa using this
  rcases (by omega : n % 2 = 0 ∨ n % 2 = 1) with h | h
  · rw [h] at h2; have h3 : (0 ^^^ 1 : Nat) = 1 := by decide
    rw [h3] at h2; left; omega
  · rw [h] at h2; have h3 : (1 ^^^ 1 : Nat) = 0 := by decide
    rw [h3] at h2; right; omega
theorem xor_pow (n m : Nat) : n ^^^ 2 ^ m = n + 2 ^ m ∨ (n ^^^ 2 ^ m) + 2 ^ m = n := by
  have hp : 0 < 2 ^ m := Nat.two_pow_pos m
  have h1 : (n ^^^ 2 ^ m) / 2 ^ m = (n / 2 ^ m) ^^^ 1 := by
    rw [Nat.xor_div_two_pow, Nat.div_self hp]
  have h2 : (n ^^^ 2 ^ m) % 2 ^ m = n % 2 ^ m := by
    rw [Nat.xor_mod_two_pow, Nat.mod_self, Nat.xor_zero]
  have e1 := Nat.div_add_mod n (2 ^ m)
  have e2 := Nat.div_add_mod (n ^^^ 2 ^ m) (2 ^ m)
  rw [h1, h2] at e2
  generalize 2 ^ m = P at *
  rcases xor_one (n / P) with h | h
  · left
    rw [h, Nat.mul_add, Nat.mul_one] at e2
    omega
  · right
    generalize hq : (n / P) ^^^ 1 = q at *
    rw [← h, Nat.mul_add, Nat.mul_one] at e1
    omega
theorem flip8 (x m : Nat) (hx : x ≤ 255) (hm : m < 8) : ∃ y : Nat, y ≤ 255 ∧ bits .xor .u8 (x : Int) ((2 : Int) ^ m % 256) = (y : Int) ∧ ((y : Int) = (x : Int) + 2 ^ m ∨ (y : Int) = (x : Int) - 2 ^ m) := by
  have hp : 2 ^ m < 256 := by
    rcases (by omega : m = 0 ∨ m = 1 ∨ m = 2 ∨ m = 3 ∨ m = 4 ∨ m = 5 ∨ m = 6 ∨ m = 7) with rfl | rfl | rfl | rfl | rfl | rfl | rfl | rfl <;> decide
  have e : ((2 ^ m : Nat) : Int) = (2 : Int) ^ m := by simp
  have hlt : x ^^^ 2 ^ m < 256 := Nat.xor_lt_two_pow (n := 8) (by omega) hp
  refine ⟨x ^^^ 2 ^ m, by omega, ?_, ?_⟩
  · have h3 : (2 : Int) ^ m % 256 = ((2 ^ m : Nat) : Int) := by rw [← e]; exact Int.emod_eq_of_lt (Int.natCast_nonneg _) (Int.ofNat_lt.2 hp)
    rw [h3]
    exact u8_xor_nat x (2 ^ m) (by omega) hp
  · rw [← e]
    rcases xor_pow x m with h | h
    · left; rw [h]; simp
    · right; have : ((x ^^^ 2 ^ m : Nat) : Int) + ((2 ^ m : Nat) : Int) = (x : Int) := by exact_mod_cast h
      omega
theorem set_str1 (x : ByteArray) (k a : Nat) (ha : a ≤ 255) : L (strOfNums ((nums x).set k a)) = (L x).set k (UInt8.ofNat a) := by
  show (strOfNums _).data.toList = _
  rw [strOfNums_data, nums, List.map_set, List.map_map]
  have e : (L x).map ((fun n : Int => UInt8.ofNat n.toNat) ∘ fun c : UInt8 => (c.toNat : Int)) = L x := by
    conv => rhs; rw [← List.map_id (L x)]
    apply List.map_congr_left
    intro c _
    simp
  rw [e]
  simp
theorem nums_at (x : ByteArray) (k : Nat) (h : k < x.size) : (nums x).getD k 0 = bt (L x) k := by
  have h2 : k < (L x).length := h
  rw [bt_get _ _ h2, nums, List.getD, List.getElem?_map, List.getElem?_eq_getElem h2]; rfl
end Go.Proofs.Ytafckmbgefbonaa.nb
