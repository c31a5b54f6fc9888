/-
  OnesCount64 on all numbers below 65536, asked of the kernel. No walk stands here.
-/
import Derived.Test.YtkekanllfpdeaaaDoorDg
namespace Go.Proofs.YtkekanllfpdeaaaDoor

def oc1 (x : Nat) : Nat := (x / 2 &&& 6148914691236517205) + (x &&& 6148914691236517205)
def oc2 (x : Nat) : Nat := (x / 4 &&& 3689348814741910323) + (x &&& 3689348814741910323)
def oc3 (x : Nat) : Nat := (x / 16 + x) &&& 1085102592571150095
def oc4 (x : Nat) : Nat := x + x / 256
def oc (x : Nat) : Nat :=
  let y := oc4 (oc3 (oc2 (oc1 x)))
  y &&& 127
def ocOk : Bool := (List.range 256).all fun a => (List.range 256).all fun b =>
  let x := a * 256 + b
  let y1 := oc1 x
  let y2 := oc2 y1
  let y3 := oc3 y2
  let y4 := oc4 y3
  Nat.beq (y4 &&& 127) (popL 16 x) && (Nat.ble y1 65535 && (Nat.ble y2 65535 && (Nat.ble y3 65535 && Nat.ble y4 65535)))
set_option maxRecDepth 100000 in
theorem ocOk_true : ocOk = true := by decide +kernel
theorem oc_all {x : Nat} (h : x < 65536) : oc x = popL 16 x ∧ oc1 x ≤ 65535 ∧ oc2 (oc1 x) ≤ 65535 ∧ oc3 (oc2 (oc1 x)) ≤ 65535 ∧ oc4 (oc3 (oc2 (oc1 x))) ≤ 65535 := by
  have h1 := ocOk_true
  unfold ocOk at h1
  rw [List.all_eq_true] at h1
  have h2 := h1 (x / 256) (List.mem_range.2 (by omega))
  rw [List.all_eq_true] at h2
  have h3 := h2 (x % 256) (List.mem_range.2 (by omega))
  have e : x / 256 * 256 + x % 256 = x := by omega
  simp only [e, Bool.and_eq_true, Nat.ble_eq] at h3
  exact ⟨Nat.eq_of_beq_eq_true h3.1, h3.2.1, h3.2.2.1, h3.2.2.2.1, h3.2.2.2.2⟩
end Go.Proofs.YtkekanllfpdeaaaDoor
