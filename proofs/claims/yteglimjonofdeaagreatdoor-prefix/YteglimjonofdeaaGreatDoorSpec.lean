import Derived.WalkKit
set_option linter.unusedVariables false
set_option linter.unusedSimpArgs false
namespace Go.Proofs.YteglimjonofdeaaGreatDoor
open Go.RowKit

theorem qA {α : Type _} {l : List α} {i : Nat} (h : i < l.toArray.size) : l.toArray[i]'h = l[i]'(by simpa using h) := rfl
theorem qB {α : Type _} {a : α} {l : List α} {h : 0 < (a :: l).length} : (a :: l)[0]'h = a := rfl
theorem qC {α : Type _} {a : α} {l : List α} {i : Nat} {h : i + 1 < (a :: l).length} : (a :: l)[i + 1]'h = l[i]'(Nat.lt_of_succ_lt_succ h) := rfl
theorem qD {α : Type _} {l : List α} {i : Nat} {a : α} : l.toArray.setIfInBounds i a = (l.set i a).toArray := by simp
theorem qE {α : Type _} {l : List α} {x a : α} : (x :: l).set 0 a = a :: l := rfl
theorem qF {α : Type _} {l : List α} {x a : α} {n : Nat} : (x :: l).set (n + 1) a = x :: l.set n a := rfl
/-- Turned to the left by s bits, as the program reckons it. -/
def rotI (x s : Int) : Int := bits .or .u32 (x * 2 ^ s.toNat % 4294967296) (x / 2 ^ (32 - s).toNat)
/-- Four bytes as a number. -/
def readI (x0 x1 x2 x3 : Int) : Int :=
  bits .or .u32 (bits .or .u32 (bits .or .u32 (x0 % 4294967296 * 16777216 % 4294967296) (x1 % 4294967296 * 65536 % 4294967296)) (x2 % 4294967296 * 256 % 4294967296)) (x3 % 4294967296)
def xorI (a b : Int) : Int := bits .xor .u32 a b
/-- Three turns to the left, laid over one another. -/
def turnI (x i j k : Int) : Int := bits .xor .u32 (bits .xor .u32 (rotI x i) (rotI x j)) (rotI x k)
/-- A number's four bytes. -/
def fourN (n : Int) : List Int := [n / 16777216 % 256, n / 65536 % 256, n / 256 % 256, n % 256]
def bytesV (l : List Int) : List Value := l.map (Value.int .u8)
def fourI (n : Int) : List Value := bytesV (fourN n)
theorem fourI_length (n : Int) : (fourI n).length = 4 := rfl
theorem fourI_one (n : Int) : ∀ u ∈ fourI n, u.oneCell' = true := by
  intro u hu; simp [fourI, bytesV, fourN] at hu; rcases hu with rfl | rfl | rfl | rfl <;> rfl
theorem bytesV_append (a b : List Int) : bytesV (a ++ b) = bytesV a ++ bytesV b := List.map_append
theorem bytesV_length (a : List Int) : (bytesV a).length = a.length := List.length_map _
theorem bytesV_one (a : List Int) : ∀ u ∈ bytesV a, u.oneCell' = true := by
  intro u hu; simp [bytesV] at hu; obtain ⟨x, _, rfl⟩ := hu; rfl
theorem ret_int {k : IntKind} {a b : Int} (h : a = b) : Ending.returned (.int k a) = .returned (.int k b) := by rw [h]
theorem ret_bool {a b : Bool} (h : a = b) : Ending.returned (.bool a) = .returned (.bool b) := by rw [h]
theorem s6 : bits .and .u64 (IntKind.u64.wrap (-6)) 31 = 26 := by decide +kernel
theorem s11 : bits .and .u64 (IntKind.u64.wrap (-11)) 31 = 21 := by decide +kernel
theorem s25 : bits .and .u64 (IntKind.u64.wrap (-25)) 31 = 7 := by decide +kernel
theorem s2 : bits .and .u64 (IntKind.u64.wrap (-2)) 31 = 30 := by decide +kernel
theorem s13 : bits .and .u64 (IntKind.u64.wrap (-13)) 31 = 19 := by decide +kernel
theorem s22 : bits .and .u64 (IntKind.u64.wrap (-22)) 31 = 10 := by decide +kernel
theorem s7 : bits .and .u64 (IntKind.u64.wrap (-7)) 31 = 25 := by decide +kernel
theorem s18 : bits .and .u64 (IntKind.u64.wrap (-18)) 31 = 14 := by decide +kernel
theorem s17 : bits .and .u64 (IntKind.u64.wrap (-17)) 31 = 15 := by decide +kernel
theorem s19 : bits .and .u64 (IntKind.u64.wrap (-19)) 31 = 13 := by decide +kernel
end Go.Proofs.YteglimjonofdeaaGreatDoor
