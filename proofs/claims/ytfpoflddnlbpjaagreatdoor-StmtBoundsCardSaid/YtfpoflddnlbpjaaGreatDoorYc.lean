/- Plain: the texts and programs of StmtBounds, and what is read of them. -/
import Derived.Test.YtfpoflddnlbpjaaGreatDoorZw
namespace Go.Proofs.YtfpoflddnlbpjaaGreatDoor
set_option linter.unusedVariables false
def bF : List UInt8 := [102]
def rep (s : List UInt8) : Nat → List UInt8
  | 0 => []
  | m + 1 => rep s m ++ s
def one0 : List UInt8 := [102, 110, 32, 102, 40, 41, 32, 123, 125, 59]
def pg0 (m : Nat) : List Fd := List.replicate m ⟨bF, [], [], false, []⟩
def px : Pm := ⟨[120], false, false, false⟩
def par1 : Nat → List UInt8
  | 0 => [102, 110, 32, 102, 40]
  | m + 1 => (if 0 < m then par1 m ++ [44] else par1 m) ++ [110, 117, 109, 32, 120]
def tx1 (m : Nat) : List UInt8 := par1 m ++ [41, 32, 123, 125, 59]
def pg1 (m : Nat) : List Fd := [⟨bF, List.replicate m px, [], false, []⟩]
def seal0 : St := .mk 12 [] [] false false [] [] [] []
def sea2 : Nat → List UInt8
  | 0 => [102, 110, 32, 102, 40, 41, 32, 123]
  | m + 1 => sea2 m ++ [115, 101, 97, 108, 59]
def tx2 (m : Nat) : List UInt8 := sea2 m ++ [125, 59]
def pg2 (m : Nat) : List Fd := [⟨bF, [], List.replicate m seal0, false, []⟩]
def nst3 : Nat → List UInt8
  | 0 => [115, 101, 97, 108, 59]
  | m + 1 => [119, 104, 105, 108, 101, 32, 48, 32, 123] ++ nst3 m ++ [125]
def sts3 : Nat → List St
  | 0 => [seal0]
  | m + 1 => [.mk 6 [] [] false false [.mk 1 0 [] 0 []] [] (sts3 m) []]
def tx3 (m : Nat) : List UInt8 := [102, 110, 32, 102, 40, 41, 32, 123] ++ nst3 m ++ [125, 59]
def pg3 (m : Nat) : List Fd := [⟨bF, [], sts3 m, false, []⟩]
set_option maxRecDepth 1000000
theorem b00 : parB (rep one0 15) = .ok (pg0 15) := by rw [← parC_eq]; kernel_rfl
theorem b01 : parB (rep one0 16) = .ok (pg0 16) := by rw [← parC_eq]; kernel_rfl
theorem b02 : parB (rep one0 17) = .er 5 160 := by rw [← parC_eq]; kernel_rfl
theorem c02 : pgB (pg0 17) = false := by kernel_rfl
theorem b10 : parB (tx1 7) = .ok (pg1 7) := by rw [← parC_eq]; kernel_rfl
theorem b11 : parB (tx1 8) = .ok (pg1 8) := by rw [← parC_eq]; kernel_rfl
theorem b12 : parB (tx1 9) = .er 5 53 := by rw [← parC_eq]; kernel_rfl
theorem c12 : pgB (pg1 9) = false := by kernel_rfl
theorem b30 : parB (tx3 38) = .ok (pg3 38) := by rw [← parC_eq]; kernel_rfl
theorem b31 : parB (tx3 39) = .ok (pg3 39) := by rw [← parC_eq]; kernel_rfl
theorem b32 : parB (tx3 40) = .er 70 368 := by rw [← parC_eq]; kernel_rfl
theorem c32 : pgB (pg3 40) = false := by kernel_rfl
theorem b20 : parB (tx2 399) = .ok (pg2 399) := by rw [← parC_eq]; kernel_rfl
theorem b21 : parB (tx2 400) = .ok (pg2 400) := by rw [← parC_eq]; kernel_rfl
theorem b22 : parB (tx2 401) = .er 5 2008 := by rw [← parC_eq]; kernel_rfl
theorem c22 : pgB (pg2 401) = false := by kernel_rfl
end Go.Proofs.YtfpoflddnlbpjaaGreatDoor
