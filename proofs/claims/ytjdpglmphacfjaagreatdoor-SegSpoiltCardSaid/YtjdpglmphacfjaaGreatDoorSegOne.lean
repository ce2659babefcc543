/-
  Two texts, a fall of 0, a fall of 8: what the disk has, and what is opened.
-/
import Derived.Test.YtjdpglmphacfjaaGreatDoorSegNil
namespace Go.Proofs.YtjdpglmphacfjaaGreatDoor
open Go.RowKit

def tOne : List UInt8 := [111, 110, 101]
def tTwo : List UInt8 := [116, 119, 111]
def tAb : List UInt8 := [97, 98]
def rBig : Nat := 1048576
def mA : List Fm := appM rBig (addM [] 0) (segName 0) (frB tOne)
def mB : List Fm := synM mA (segName 0)
def mC : List Fm := appM rBig (addM mB 0) (segName 0) (frB tTwo)

theorem room_big : roomOf 1048576 = rBig := by kernel_rfl
theorem open_first : openF rBig [] 0 = (0, [], []) ∧ openAt [] 0 = 0 := ⟨by kernel_rfl, by kernel_rfl⟩
theorem add_first : addTo [] 0 = 0 ∧ appE rBig (addM [] 0) (segName 0) (frB tOne) = 0 := ⟨by kernel_rfl, by kernel_rfl⟩
theorem add_second : addTo mB 0 = 0 ∧ appE rBig (addM mB 0) (segName 0) (frB tTwo) = 0 := ⟨by kernel_rfl, by kernel_rfl⟩
theorem mC_few : mC.length = 1 := by kernel_rfl
theorem open_nought : (openF rBig (mFall 0 mC) 0).1 = 0 ∧ (openF rBig (mFall 0 mC) 0).2.1 = [tOne] ∧ openAt (mFall 0 mC) 0 = 0 ∧ tot (mDel newName (mFall 0 mC)) = 9 := ⟨by kernel_rfl, by kernel_rfl, by kernel_rfl, by kernel_rfl⟩
theorem open_eight : (openF rBig (mFall 8 mC) 0).1 = 0 ∧ (openF rBig (mFall 8 mC) 0).2.1 = [tOne] ∧ openAt (mFall 8 mC) 0 = 0 ∧ tot (mDel newName (mFall 8 mC)) = 17 := ⟨by kernel_rfl, by kernel_rfl, by kernel_rfl, by kernel_rfl⟩

set_option maxHeartbeats 400000 in
theorem begunThree_calls (w : World) : Calls Tryz.prog 24 #[] w fun e w' => e = .returned (.bool true) ∧ Below w.heap.size w w' := by
  go_enter Tryz.func24, Tryz.ntmps24
  go_wp2_with fail
  refine (begun3_calls _).mono ?_
  rintro e w1 ⟨rfl, hb⟩
  have HB := Lib.hid hb
  clear hb
  go_wp2
  go_ret
  exact ⟨rfl, HB.out⟩

end Go.Proofs.YtjdpglmphacfjaaGreatDoor
