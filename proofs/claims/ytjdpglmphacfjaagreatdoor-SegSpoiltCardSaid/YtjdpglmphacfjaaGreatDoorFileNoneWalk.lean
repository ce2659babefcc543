/-
  (Of the file's laws; here: only what stands ahead of them.)
-/
import Derived.Test.YtjdpglmphacfjaaGreatDoorBegun3
