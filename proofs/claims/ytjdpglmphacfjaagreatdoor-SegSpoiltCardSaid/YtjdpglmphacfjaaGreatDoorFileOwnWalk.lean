/-
  (Of the file's laws; here: only what stands ahead of them, and two words on falls.)
-/
import Derived.Test.YtjdpglmphacfjaaGreatDoorDk
namespace Go.Proofs.YtjdpglmphacfjaaGreatDoor

theorem moreOf_neg (n : Int) (lo : Nat) (h : n < 0) : moreOf n lo = 0 := by
  unfold moreOf
  rw [show max n 0 = 0 by omega]
  simp

end Go.Proofs.YtjdpglmphacfjaaGreatDoor
