import Derived.Test.YtjmdhfjemaoebaaGreatM01x17
import Derived.Test.YtjmdhfjemaoebaaGreatM01x16
namespace Go.Proofs.YtjmdhfjemaoebaaGreat
set_option maxRecDepth 20000
open Go.RowKit Go.Am
def turnsOf : Nat → List (List Int)
  | 0 => [[]]
  | 1 => [[0]]
  | 2 => [[0, 1], [1, 0]]
  | 3 => [[0, 1, 2], [0, 2, 1], [1, 0, 2], [1, 2, 0], [2, 0, 1], [2, 1, 0]]
  | _ => []
def turnF (xs ax : List Int) (i : Nat) : Int := idxTo (turned xs ax) (turned (places xs i) ax) (turned xs ax).length
def turnG (xs ax : List Int) (m : Nat) : Int := rdAt (turned xs ax) (turned (strides xs) ax) 0 m
def cntN (xs : List Int) : Nat := (cntTo xs xs.length).toNat
def turnChk (xs ax : List Int) : Bool := (List.range (cntN xs)).all fun i =>
  decide (0 ≤ turnF xs ax i) && decide (turnF xs ax i < cntN xs) && decide (0 ≤ turnG xs ax i) && decide (turnG xs ax i < cntN xs) && (turnF xs ax (turnG xs ax i).toNat == i) && (turnG xs ax (turnF xs ax i).toNat == i)
def turnAll (xs : List Int) : Bool := (turnsOf xs.length).all fun ax => turnChk xs ax && (cntTo (turned xs ax) (turned xs ax).length == cntTo xs xs.length) && shapeOk (turned xs ax)
theorem turnAll_2 : shapes2.all turnAll = true := by kernel_rfl
theorem turnAll_31 : (shapes3 1).all turnAll = true := by kernel_rfl
theorem turnAll_32 : (shapes3 2).all turnAll = true := by kernel_rfl
theorem turnAll_33 : (shapes3 3).all turnAll = true := by kernel_rfl
theorem turnAll_34 : (shapes3 4).all turnAll = true := by kernel_rfl
theorem turnAll_t {xs : List Int} (h : shapeOk xs = true) : turnAll xs = true := shape_all turnAll_2 turnAll_31 turnAll_32 turnAll_33 turnAll_34 h
end Go.Proofs.YtjmdhfjemaoebaaGreat
