/-
  YOrderHolds
-/
import Derived.Shelf.SlIterI.Nil
import Derived.Test.YtlmefpanoimkcaaGreatLst
import Derived.Test.YtlmefpanoimkcaaGreatCt
import Derived.Test.YtlmefpanoimkcaaGreatRmy
import Derived.Test.YtlmefpanoimkcaaGreatPkBD
import Derived.ShutString
namespace Go.Proofs.YtlmefpanoimkcaaGreat
open Go.RowKit
def entZ (x : Int) : Lit × DataW Unit := (.int .i64 x, .agg [])
def SetIs (w : World) (m : Nat) (L : List Int) : Prop :=
 L.Nodup ∧ ∃ es, w.ownsMap Tryz.prog 2 unitElem m L.length (.map es) ∧ es.Perm (L.map entZ)
def delS (L : List Int) (x : Int) : List Int := L.filter fun y => !(y == x)
def insS (L : List Int) (x : Int) : List Int := delS L x ++ [x]
theorem mem_delS {L : List Int} {x y : Int} : y ∈ delS L x ↔ y ∈ L ∧ y ≠ x := by
 unfold delS
 rw [List.mem_filter]
 simp
theorem mem_insS {L : List Int} {x y : Int} : y ∈ insS L x ↔ y ∈ L ∨ y = x := by
 unfold insS
 rw [List.mem_append, mem_delS, List.mem_singleton]
 by_cases e : y = x <;> simp [e]
theorem delS_len (L : List Int) (x : Int) : (delS L x).length ≤ L.length := List.length_filter_le _ _
theorem insS_len (L : List Int) (x : Int) : (insS L x).length ≤ L.length + 1 := by
 unfold insS
 have := delS_len L x
 rw [List.length_append, List.length_singleton]
 omega
theorem map_tight {H : Type} {P : Program} {k : TypeId} {R : Value → Option (DataW H × List MemPlace)} {w : World} {b n : Nat} {es : List (Lit × DataW H)} (h : w.ownsMap P k R b n (.map es)) {n' : Nat} (hn : es.length = n') : w.ownsMap P k R b n' (.map es) := by
 obtain ⟨es0, clock, hb, F, hs, hD⟩ := h
 refine ⟨es0, clock, hb, F, ?_, hD⟩
 have : es = (es0.toList.map (Go.WideElems.rg P k R)).foldr DataW.insert [] := by injection hD
 rw [this, length_sorted] at hn
 simp at hn
 omega
theorem SetIs.turn {l : List Nat} {w w' : World} {m : Nat} {L : List Int} (h : SetIs w m L) (ht : Turn l w w') (hn : m ∉ l) : SetIs w' m L := by
 obtain ⟨hnd, es, ⟨es0, clock, hb, rest⟩, hp⟩ := h
 exact ⟨hnd, es, ⟨es0, clock, ht.heap hb hn, rest⟩, hp⟩
theorem SetIs.lt {w : World} {m : Nat} {L : List Int} (h : SetIs w m L) : m < w.heap.size := by
 obtain ⟨_, es, ⟨es0, clock, hb, rest⟩, hp⟩ := h
 exact lt_of_heap hb
theorem key_int {x : Int} (hx : (Lit.int .i64 x).wf = true) : keyOf Tryz.prog 2 (.int .i64 x) = some (.int .i64 x) := Go.Maps.keyOf_int_mk Tryz.underlying2 hx
theorem int_law : Go.Maps.Keyed Tryz.prog 2 := Go.Maps.int_keyed Tryz.underlying2
theorem sameKey_int (a b : Int) : (Lit.int .i64 a).sameKey (.int .i64 b) = (a == b) := by
 cases h : (Lit.int .i64 a).sameKey (.int .i64 b)
 · cases hb : a == b
   · rfl
   · have : a = b := by simpa using hb
     subst this
     rw [Go.WideAt.sameKey_self (by trivial)] at h
     cases h
 · have := Go.WideAt.sameKey_eq h
   simp at this
   subst this
   simp
theorem perm_delZ {L : List Int} {es : List (Lit × DataW Unit)} (hp : es.Perm (L.map entZ)) (x : Int) : (es.filter fun p => !p.1.sameKey (.int .i64 x)).Perm ((delS L x).map entZ) := by
 refine (hp.filter _).trans ?_
 rw [List.filter_map]
 refine List.Perm.of_eq (congrArg _ (List.filter_congr fun q _ => ?_))
 show (!(entZ q).1.sameKey (.int .i64 x)) = _
 rw [show (entZ q).1 = Lit.int .i64 q from rfl, sameKey_int]
theorem SetIs.deleted {w' : World} {m k : Nat} {L : List Int} {es : List (Lit × DataW Unit)} (hnd : L.Nodup) (hp : es.Perm (L.map entZ)) (x : Int) (ho : w'.ownsMap Tryz.prog 2 unitElem m k ((DataW.map es).del (.int .i64 x))) :
 SetIs w' m (delS L x) :=
 ⟨hnd.sublist List.filter_sublist, _, map_tight ho (by rw [(perm_delZ hp x).length_eq, List.length_map]), perm_delZ hp x⟩
theorem SetIs.stored {w' : World} {m k : Nat} {L : List Int} {es : List (Lit × DataW Unit)} (hnd : L.Nodup) (hp : es.Perm (L.map entZ)) (x : Int)
 (ho : w'.ownsMap Tryz.prog 2 unitElem m k ((DataW.map es).put (.int .i64 x) (.agg []))) : SetIs w' m (insS L x) := by
 have hper : (DataW.insert ((Lit.int .i64 x, DataW.agg [])) (es.filter fun p => !p.1.sameKey (.int .i64 x))).Perm ((insS L x).map entZ) := by
  refine (Go.WideShapes.insert_perm _ _).trans ?_
  unfold insS
  rw [List.map_append]
  refine ((perm_delZ hp x).cons _).trans ?_
  exact (List.perm_append_comm (l₁ := [entZ x]) (l₂ := (delS L x).map entZ))
 refine ⟨?_, _, map_tight ho (by rw [hper.length_eq, List.length_map]), hper⟩
 unfold insS
 rw [List.nodup_append]
 refine ⟨hnd.sublist List.filter_sublist, by simp, fun a ha b hb => ?_⟩
 simp at hb
 subst hb
 exact (mem_delS.1 ha).2
theorem SetIs.made (w : World) : SetIs (w.alloc (.map #[] 0)) w.heap.size [] :=
 ⟨by simp, [], World.ownsMap_made w Tryz.prog 2 unitElem, .refl _⟩
def cn (p : MsgV → Bool) (l : List MsgV) : Nat := (l.filter p).length
def pBy (t : Int) (x : MsgV) : Bool := decide (x.by_ = t)
def pHd (x : MsgV) : Bool := !decide (x.by_ = 0)
theorem cn_next {p : MsgV → Bool} {l : List MsgV} {k : Nat} {x : MsgV} (h : l[k]? = some x) : cn p (l.take (k + 1)) = cn p (l.take k) + if p x = true then 1 else 0 := by
 unfold cn
 rw [List.take_add_one, h, List.filter_append, List.length_append]
 cases e : p x <;> simp [e]
theorem cn_le (p : MsgV → Bool) (l : List MsgV) (k : Nat) : cn p (l.take k) ≤ k := by
 unfold cn
 have h1 := List.length_filter_le p (l.take k)
 have h2 := List.length_take_le k l
 omega
theorem cn_all (p : MsgV → Bool) (l : List MsgV) : cn p l ≤ l.length := List.length_filter_le p l
theorem cn_pos {p : MsgV → Bool} {l : List MsgV} {x : MsgV} (hx : x ∈ l) (h : p x = true) : 0 < cn p l :=
 List.length_pos_of_mem (List.mem_filter.2 ⟨hx, h⟩)
theorem cn_zero {p : MsgV → Bool} {l : List MsgV} (h : ∀ x ∈ l, p x = false) : cn p l = 0 := by
 unfold cn
 rw [List.filter_eq_nil_iff.2 (fun x hx => by rw [h x hx]; simp)]
 rfl
theorem sum_plus {α : Type} (f g : α → Nat) (l : List α) : (l.map fun x => f x + g x).sum = (l.map f).sum + (l.map g).sum := by
 induction l with
 | nil => rfl
 | cons x l ih => simp only [List.map_cons, List.sum_cons, ih]; omega
theorem ones_none (q : Int) : ∀ (Q : List Int), q ∉ Q → (Q.map fun x => if q = x then 1 else 0).sum = 0
 | [], _ => rfl
 | x :: Q, h => by
  simp only [List.mem_cons, not_or] at h
  rw [List.map_cons, List.sum_cons, if_neg h.1, ones_none q Q h.2]
theorem ones_le (q : Int) : ∀ (Q : List Int), Q.Nodup → (Q.map fun x => if q = x then 1 else 0).sum ≤ 1
 | [], _ => by simp
 | x :: Q, hn => by
  obtain ⟨h1, h2⟩ := List.nodup_cons.1 hn
  rw [List.map_cons, List.sum_cons]
  by_cases e : q = x
  · subst e
    rw [if_pos rfl, ones_none q Q h1]
    exact Nat.le_refl _
  · rw [if_neg e]
    have := ones_le q Q h2
    omega
theorem sum_held {Q : List Int} (hn : Q.Nodup) (h0 : (0 : Int) ∉ Q) : ∀ (M : List MsgV), (Q.map fun t => cn (pBy t) M).sum ≤ cn pHd M
 | [] => by
  have : (Q.map fun t => cn (pBy t) []) = Q.map fun _ => 0 := rfl
  rw [this]
  clear this hn h0
  induction Q with
  | nil => exact Nat.le_refl _
  | cons x Q ih => rw [List.map_cons, List.sum_cons]; simpa using ih
 | m :: M => by
  have ih := sum_held hn h0 M
  have e : (Q.map fun t => cn (pBy t) (m :: M)) = Q.map fun x => (if m.by_ = x then 1 else 0) + cn (pBy x) M := by
   refine List.map_congr_left fun x _ => ?_
   unfold cn pBy
   rw [List.filter_cons]
   by_cases e : m.by_ = x
   · rw [if_pos (by simpa using e), if_pos e, List.length_cons]; omega
   · rw [if_neg (by simpa using e), if_neg e]; omega
  rw [e, sum_plus]
  have e2 : cn pHd (m :: M) = (if m.by_ = 0 then 0 else 1) + cn pHd M := by
   unfold cn pHd
   rw [List.filter_cons]
   by_cases e : m.by_ = 0
   · rw [if_neg (by simp [e]), if_pos e]; omega
   · rw [if_pos (by simp [e]), if_neg e, List.length_cons]; omega
  rw [e2]
  by_cases e : m.by_ = 0
  · rw [e, ones_none 0 Q h0, if_pos rfl]; omega
  · rw [if_neg e]
    have := ones_le m.by_ Q hn
    omega
theorem sums_next {f : Int → Nat} {Q : List Int} {k : Nat} {x : Int} (h : Q[k]? = some x) : ((Q.take (k + 1)).map f).sum = ((Q.take k).map f).sum + f x := by
 rw [List.take_add_one, h, List.map_append, List.sum_append]
 simp
theorem sums_le (f : Int → Nat) (Q : List Int) (k : Nat) : ((Q.take k).map f).sum ≤ (Q.map f).sum := by
 conv => rhs; rw [← List.take_append_drop k Q, List.map_append, List.sum_append]
 exact Nat.le_add_right _ _
def LooseP (s : StV) (y : Int) : Prop := (∃ x ∈ s.ms, x.by_ = y) ∧ y ≠ 0 ∧ (∀ b ∈ s.waits, b.tid ≠ y) ∧ ∀ p ∈ s.open_, p.tid ≠ y
theorem loose_in {s : StV} {R : List Int} (hR : ∀ y, y ∈ R ↔ LooseP s y) {x : MsgV} (hx : x ∈ s.ms) (h0 : x.by_ ≠ 0) : decide (x.by_ ∈ R) = !(keyB BrV.tid s.waits x.by_ || keyB PendV.tid s.open_ x.by_) := by
 have h1 : x.by_ ∈ R ↔ (∀ b ∈ s.waits, b.tid ≠ x.by_) ∧ ∀ p ∈ s.open_, p.tid ≠ x.by_ := by
  rw [hR]
  exact ⟨fun h => h.2.2, fun h => ⟨⟨x, hx, rfl⟩, h0, h⟩⟩
 rw [Bool.eq_iff_iff, decide_eq_true_eq, h1, Bool.not_eq_true', Bool.or_eq_false_iff]
 unfold keyB
 rw [List.any_eq_false, List.any_eq_false]
 simp
theorem loose_zero {s : StV} {R : List Int} (hR : ∀ y, y ∈ R ↔ LooseP s y) : (0 : Int) ∉ R := fun h => ((hR 0).1 h).2.1 rfl
theorem by_one {s : StV} (h : MayP s) : cn (pBy 1) s.ms = 0 := by
 refine cn_zero fun x hx => ?_
 have := (h.ms x hx).2.2.2.2.2.2.2.2
 unfold pBy
 refine decide_eq_false fun e => ?_
 rw [e] at this
 rcases this with h1 | ⟨h1, -⟩
 · omega
 · have : homeZ 1 = 0 := by decide
   omega
theorem by_some {s : StV} {k : Nat} {x : MsgV} (hx : s.ms[k]? = some x) : 0 < cn (pBy x.by_) s.ms := cn_pos (List.mem_of_getElem? hx) (by unfold pBy; exact decide_eq_true rfl)
end Go.Proofs.YtlmefpanoimkcaaGreat
namespace Go.Proofs
open Go.Shelf
def Tryz.keysI_ren : Go.Shelf.Ren := ⟨fun | 7 => 90 | 10 => 159 | n => n, fun | 23 => 108 | 26 => 2 | 3 => 109 | 28 => 112 | 0 => 0 | 27 => 111 | 33 => 85 | 4 => 4 | n => n, fun | n => n⟩
theorem Tryz.keysI : Go.Proofs.SlLaysZI.n7 Tryz.prog Tryz.keysI_ren := {
 mixed := by kernel_rfl
 f7 := ⟨Tryz.f90.name, by decide, Tryz.func90.trans (congrArg some (by kernel_rfl))⟩
 f10 := ⟨Tryz.f159.name, by decide, Tryz.func159.trans (congrArg some (by kernel_rfl))⟩
 t0 := Tryz.underlying0
 a0 := Tryz.isAgg0
 z0 := Tryz.sizeOf0
 v0 := Tryz.zeroValue0
 t4 := Tryz.underlying4
 a4 := Tryz.isAgg4
 z4 := Tryz.sizeOf4
 v4 := Tryz.zeroValue4
 t23 := Tryz.underlying108
 a23 := Tryz.isAgg108
 z23 := Tryz.sizeOf108
 v23 := Tryz.zeroValue108
 t26 := Tryz.underlying2
 a26 := Tryz.isAgg2
 z26 := Tryz.sizeOf2
 v26 := Tryz.zeroValue2
 t27 := Tryz.underlying111
 a27 := Tryz.isAgg111
 z27 := Tryz.sizeOf111
 v27 := Tryz.zeroValue111
 t28 := Tryz.underlying112
 a28 := Tryz.isAgg112
 z28 := Tryz.sizeOf112
 v28 := Tryz.zeroValue112
 t33 := Tryz.underlying85
 a33 := Tryz.isAgg85
 z33 := Tryz.sizeOf85
 v33 := Tryz.zeroValue85 }
def Tryz.sortedI_ren : Go.Shelf.Ren := ⟨fun | 6 => 89 | 8 => 158 | 9 => 91 | 11 => 212 | 13 => 157 | 12 => 160 | 23 => 210 | 24 => 211 | 14 => 213 | 15 => 214 | 16 => 215 | 17 => 216 | 18 => 217 | 19 => 218 | 20 => 219 | 21 => 220 | 22 => 221 | 25 => 246 | 26 => 241 | 27 => 242 | 28 => 247 | 29 => 248 | 30 => 231 | 31 => 258 | n => n, fun | 26 => 2 | 28 => 112 | 24 => 72 | 0 => 0 | 3 => 3 | 37 => 173 | 48 => 220 | 50 => 177 | 4 => 4 | 40 => 213 | 39 => 212 | 45 => 143 | 5 => 5 | 9 => 9 | 51 => 247 | 55 => 251 | 57 => 261 | 58 => 262 | 33 => 85 | n => n, fun | n => n⟩
theorem Tryz.sortedI : Go.Proofs.SlLaysZI.n6 Tryz.prog Tryz.sortedI_ren := {
 mixed := by kernel_rfl
 f6 := ⟨Tryz.f89.name, by decide, Tryz.func89.trans (congrArg some (by kernel_rfl))⟩
 f8 := ⟨Tryz.f158.name, by decide, Tryz.func158.trans (congrArg some (by kernel_rfl))⟩
 f11 := ⟨Tryz.f212.name, by decide, Tryz.func212.trans (congrArg some (by kernel_rfl))⟩
 t0 := Tryz.underlying0
 a0 := Tryz.isAgg0
 z0 := Tryz.sizeOf0
 v0 := Tryz.zeroValue0
 t24 := Tryz.underlying72
 a24 := Tryz.isAgg72
 z24 := Tryz.sizeOf72
 v24 := Tryz.zeroValue72
 t26 := Tryz.underlying2
 a26 := Tryz.isAgg2
 z26 := Tryz.sizeOf2
 v26 := Tryz.zeroValue2
 t28 := Tryz.underlying112
 a28 := Tryz.isAgg112
 z28 := Tryz.sizeOf112
 v28 := Tryz.zeroValue112
 i26 := by kernel_rfl }
def Tryz.sortJ_ren : Go.Shelf.Ren := ⟨fun | 5 => 91 | 8 => 157 | 7 => 160 | 19 => 210 | 20 => 211 | 10 => 213 | 11 => 214 | 12 => 215 | 13 => 216 | 14 => 217 | 15 => 218 | 16 => 219 | 17 => 220 | 18 => 221 | 30 => 246 | 31 => 241 | 32 => 242 | 33 => 247 | 34 => 248 | 35 => 231 | 40 => 258 | n => n, fun | 23 => 72 | 25 => 2 | 3 => 3 | 32 => 173 | 22 => 72 | 0 => 0 | 44 => 220 | 46 => 177 | 4 => 4 | 36 => 213 | 35 => 212 | 41 => 143 | 5 => 5 | 9 => 9 | 53 => 247 | 57 => 251 | 63 => 261 | 64 => 262 | n => n, fun | n => n⟩
theorem Tryz.sortJ : Go.Proofs.SlLaysM.n5 Tryz.prog Tryz.sortJ_ren := {
 mixed := by kernel_rfl
 f5 := ⟨Tryz.f91.name, by decide, Tryz.func91.trans (congrArg some (by kernel_rfl))⟩
 f7 := ⟨Tryz.f160.name, by decide, Tryz.func160.trans (congrArg some (by kernel_rfl))⟩
 f8 := Tryz.func157.trans (congrArg some (by kernel_rfl))
 f10 := ⟨Tryz.f213.name, by decide, Tryz.func213.trans (congrArg some (by kernel_rfl))⟩
 f11 := ⟨Tryz.f214.name, by decide, Tryz.func214.trans (congrArg some (by kernel_rfl))⟩
 f12 := ⟨Tryz.f215.name, by decide, Tryz.func215.trans (congrArg some (by kernel_rfl))⟩
 f13 := ⟨Tryz.f216.name, by decide, Tryz.func216.trans (congrArg some (by kernel_rfl))⟩
 f14 := ⟨Tryz.f217.name, by decide, Tryz.func217.trans (congrArg some (by kernel_rfl))⟩
 f15 := ⟨Tryz.f218.name, by decide, Tryz.func218.trans (congrArg some (by kernel_rfl))⟩
 f16 := ⟨Tryz.f219.name, by decide, Tryz.func219.trans (congrArg some (by kernel_rfl))⟩
 f17 := ⟨Tryz.f220.name, by decide, Tryz.func220.trans (congrArg some (by kernel_rfl))⟩
 f18 := ⟨Tryz.f221.name, by decide, Tryz.func221.trans (congrArg some (by kernel_rfl))⟩
 f19 := Tryz.func210.trans (congrArg some (by kernel_rfl))
 f20 := Tryz.func211.trans (congrArg some (by kernel_rfl))
 f30 := ⟨Tryz.f246.name, by decide, Tryz.func246.trans (congrArg some (by kernel_rfl))⟩
 f31 := Tryz.func241.trans (congrArg some (by kernel_rfl))
 f32 := Tryz.func242.trans (congrArg some (by kernel_rfl))
 f33 := ⟨Tryz.f247.name, by decide, Tryz.func247.trans (congrArg some (by kernel_rfl))⟩
 f34 := ⟨Tryz.f248.name, by decide, Tryz.func248.trans (congrArg some (by kernel_rfl))⟩
 f35 := ⟨Tryz.f231.name, by decide, Tryz.func231.trans (congrArg some (by kernel_rfl))⟩
 f40 := ⟨Tryz.f258.name, by decide, Tryz.func258.trans (congrArg some (by kernel_rfl))⟩
 t0 := Tryz.underlying0
 a0 := Tryz.isAgg0
 z0 := Tryz.sizeOf0
 v0 := Tryz.zeroValue0
 t3 := Tryz.underlying3
 a3 := Tryz.isAgg3
 z3 := Tryz.sizeOf3
 v3 := Tryz.zeroValue3
 t4 := Tryz.underlying4
 a4 := Tryz.isAgg4
 z4 := Tryz.sizeOf4
 v4 := Tryz.zeroValue4
 t5 := Tryz.underlying5
 a5 := Tryz.isAgg5
 z5 := Tryz.sizeOf5
 v5 := Tryz.zeroValue5
 t9 := Tryz.underlying9
 a9 := Tryz.isAgg9
 z9 := Tryz.sizeOf9
 v9 := Tryz.zeroValue9
 t22 := Tryz.underlying72
 a22 := Tryz.isAgg72
 z22 := Tryz.sizeOf72
 v22 := Tryz.zeroValue72
 t23 := Tryz.underlying72
 a23 := Tryz.isAgg72
 z23 := Tryz.sizeOf72
 v23 := Tryz.zeroValue72
 t25 := Tryz.underlying2
 a25 := Tryz.isAgg2
 z25 := Tryz.sizeOf2
 v25 := Tryz.zeroValue2
 t32 := Tryz.underlying173
 a32 := Tryz.isAgg173
 z32 := Tryz.sizeOf173
 v32 := Tryz.zeroValue173
 t35 := Tryz.underlying212
 a35 := Tryz.isAgg212
 z35 := Tryz.sizeOf212
 v35 := Tryz.zeroValue212
 t36 := Tryz.underlying213
 a36 := Tryz.isAgg213
 z36 := Tryz.sizeOf213
 v36 := Tryz.zeroValue213
 t41 := Tryz.underlying143
 a41 := Tryz.isAgg143
 z41 := Tryz.sizeOf143
 v41 := Tryz.zeroValue143
 t44 := Tryz.underlying220
 a44 := Tryz.isAgg220
 z44 := Tryz.sizeOf220
 v44 := Tryz.zeroValue220
 t46 := Tryz.underlying177
 a46 := Tryz.isAgg177
 z46 := Tryz.sizeOf177
 v46 := Tryz.zeroValue177
 t53 := Tryz.underlying247
 a53 := Tryz.isAgg247
 z53 := Tryz.sizeOf247
 v53 := Tryz.zeroValue247
 t57 := Tryz.underlying251
 a57 := Tryz.isAgg251
 z57 := Tryz.sizeOf251
 v57 := Tryz.zeroValue251
 t63 := Tryz.underlying261
 a63 := Tryz.isAgg261
 z63 := Tryz.sizeOf261
 v63 := Tryz.zeroValue261
 t64 := Tryz.underlying262
 a64 := Tryz.isAgg262
 z64 := Tryz.sizeOf262
 v64 := Tryz.zeroValue262 }
end Go.Proofs
set_option maxHeartbeats 2000000
set_option maxRecDepth 100000
namespace Go.Proofs.YtlmefpanoimkcaaGreat
open Go.RowKit
theorem refAtPend_calls {w : World} {ao : Option Addr} {c : Nat} {l : List PendV} (id : Int) (h : Pds w ao c l) : Calls Tryz.prog 40 #[.slice ao l.length c, .int .i64 id] w fun e w' => e = .returned (.int .i64 (placeI (fun m => decide (m.tid = id)) l)) ∧ w = w' := by
 have hlen := h.len
 obtain ⟨L, hL, hT, -⟩ := h
 have H := η hT
 have HL0 := η hL
 obtain ⟨ans, ha⟩ := ε (placeI (fun m => decide (m.tid = id)) l)
 have HA := η ha
 rw [← ha]
 obtain ⟨n, hn⟩ := ε l.length
 have HN := η hn
 rw [← hn] at hlen ⊢
 clear hT hL ha hn
 go_enter Tryz.func40, Tryz.ntmps40
 go_wp2_with fail
 go_loop [5] (fun i => ∃ k : Nat, k ≤ n ∧ i = .int .i64 (k : Int) ∧ ∀ (j : Nat) (y : PendV), j < k → l[j]? = some y → (fun m : PendV => decide (m.tid = id)) y = false) (fun i => n - (intOf i).toNat)
 case atStart => exact ⟨0, by omega, rfl, fun j y hj => by omega⟩
 case round =>
  obtain ⟨k, hk, rfl, hall⟩ := hrel
  have HL := η hall
  clear hall
  by_cases hkn : k < n
  · have hkl : k < L.length := by have := congrArg List.length HL0.out; rw [List.length_map] at this; rw [this, ← HN.out]; exact hkn
    obtain ⟨m, hm0⟩ : ∃ m, L[k]? = some m := ⟨_, List.getElem?_eq_getElem hkl⟩
    have hm : l[k]? = some m.v := by rw [← HL0.out, List.getElem?_map, hm0]; rfl
    obtain ⟨g, off, rfl, hat⟩ := H.out.at hm0
    have q0 := hat 0 (.int .i64 m.v.tid) rfl
    rw [Nat.add_zero] at q0
    have hb : 0 ≤ (k : Int) ∧ (k : Int) < (n : Int) := by omega
    by_cases hxy : m.v.tid = id
    · have HF : Hid (ans = (k : Int)) := η (by rw [HA.out]; exact place_hit hm (by simpa using hxy) HL.out)
      rw [hxy] at q0
      clear hat hxy HL hm hm0
      go_wp2
      go_ret
      exact ⟨ret_int HF.out.symm, rfl⟩
    · have HX : Hid (∀ (j : Nat) (y : PendV), j < k + 1 → l[j]? = some y → (fun m : PendV => decide (m.tid = id)) y = false) := η (fun j y hj hy => by
       by_cases e : j = k
       · rw [e, hm] at hy
         injection hy with hy
         rw [← hy]
         simpa using hxy
       · exact HL.out j y (by omega) hy)
      obtain ⟨y, hy⟩ := ε m.v.tid
      rw [← hy] at q0 hxy
      have hne : (y == id) = false := by simpa using hxy
      clear hat hy HL hxy hm hm0
      go_wp2
      go_round
      case rel => exact ⟨k + 1, by omega, by go_num, HX.out⟩
      case measure => simp [intOf]; omega
  · have hkk : k = n := by omega
    have HF : Hid (ans = -1) := η (by
     rw [HA.out]
     refine place_none (fun i y hy => HL.out i y ?_ hy)
     have := (List.getElem?_eq_some_iff.1 hy).1
     rw [hkk, HN.out]
     exact this)
    clear HL
    go_wp2
    go_ret
    exact ⟨ret_int HF.out.symm, rfl⟩
end Go.Proofs.YtlmefpanoimkcaaGreat
set_option maxHeartbeats 4000000
set_option maxRecDepth 100000
namespace Go.Proofs.YtlmefpanoimkcaaGreat
open Go.RowKit Go.Proofs.YtlmefpanoimkcaaGreat.V
open Go.Sort Go.Shelf
theorem Tryz.i64row : (Tryz.prog.info? 2).map (fun i => (i.zero, i.size, i.bytes)) = some (some (.int .i64 0), 1, 8) := by kernel_rfl
def nums (l : List Int) : List Value := l.map (Value.int .i64)
theorem nums_length (l : List Int) : (nums l).length = l.length := by simp [nums]
theorem nums_append (l l2 : List Int) : nums (l ++ l2) = nums l ++ nums l2 := by simp [nums]
theorem nums_one (l : List Int) : ∀ u ∈ nums l, u.oneCell' = true := by
 intro u hu
 obtain ⟨x, -, rfl⟩ := List.mem_map.1 hu
 rfl
theorem append_num {w : World} {ops : Array Oper} {rest : List Oper} {o : Oper} {a : Act} {Q : Exit → Act → World → Prop} (hgd : o.guard = none) (s x : Operand)
 (ho : o.op = .call { callee := .builtin .append, args := #[s, x], argTypes := #[72, 72] })
 (B : Nat) (v : Value) (l : List Int) (hs : a.eval s = v) (hown : w.ownsRow B 2 1 v l.length (nums l)) (hB : B ≤ w.heap.size)
 (q : Nat) (y : Int) (hx : a.eval x = .slice (some ⟨q, 0, none⟩) 1 1) (hq : w.cell? ⟨q, 0, none⟩ = some (.int .i64 y))
 (hlen : l.length ≤ 1000000)
 (h : ∀ v' w', w'.ownsRow B 2 1 v' (l ++ [y]).length (nums (l ++ [y])) → w.grownBy w' v.ownBlock → (v'.ownBlock = v.ownBlock ∨ v'.ownBlock = some w.heap.size) → wpList Tryz.prog ops Q rest (a.put o.dst v') w') : wpList Tryz.prog ops Q (o :: rest) a w := by
 obtain ⟨i0, hi, hz0, hz1, hz2⟩ := info_parts Tryz.i64row
 refine wpList_append_own_at w hgd s x 72 ho B 2 i0 (.int .i64 0) 1 8 Tryz.underlying72 hi hz0 hz1 hz2 rfl (by decide) v l.length (nums l) hs hown ⟨q, 0, none⟩ 1 1 (nums [y]) hx (by simp [nums])
  (fun j u hj => ?_) (nums_one [y]) (by unfold maxLen; omega) (by omega) hB ?_
 · have hj0 : j = 0 := by
    have := (List.getElem?_eq_some_iff.1 hj).1
    simp [nums] at this
    exact this
   subst hj0
   simp [nums] at hj
   subst hj
   rw [Addr.add_lit]
   exact hq
 · intro v' w' hown' hg hn hloc
   exact h v' w' (by rw [List.length_append, nums_append]; exact hown') hg hloc
theorem nums_holds {w : World} {B g n cap : Nat} {l : List Int} (h : w.ownsRow B 2 1 (.slice (some ⟨g, 0, none⟩) n cap) l.length (nums l)) : Holds (Value.int .i64) w g 0 l.toArray := by
 rcases h.2 with ⟨e, _⟩ | ⟨g', cap', cur, e, _, hg, h1, h2, h3, h4⟩
 · cases e
 · injection e with e1 e2 e3
   injection e1 with e1
   injection e1 with e1 _ _
   subst e1
   intro j hj
   have hjl : j < l.length := by simpa using hj
   have hc := h.cells (g := g) rfl j (.int .i64 l[j]) (by simp [nums, hjl])
   refine ⟨?_, unfrozen_of hg⟩
   rw [Addr.add_lit, Nat.zero_add] at hc
   rw [Nat.zero_add, hc]
   have : l.toArray[j]! = l[j] := by
    rw [getElem!_pos _ j hj]
    simp
   rw [this]
theorem numRow_turn (w : World) (g q : Nat) (d : Array Int) (os : Array Obj) : Turn [g] w (grow (putRow (Value.int .i64) (Sort.ahead w q) g 0 d) os) := by
 have hsz : (putRow (Value.int .i64) (Sort.ahead w q) g 0 d).heap.size = w.heap.size := by
  simp [putRow, mapBlock, Sort.ahead]
 refine ⟨rfl, rfl, rfl, ?_, fun k hk hn => ?_⟩
 · show w.heap.size ≤ ((putRow (Value.int .i64) (Sort.ahead w q) g 0 d).heap ++ os).size
   rw [Array.size_append, hsz]
   omega
 · show ((putRow (Value.int .i64) (Sort.ahead w q) g 0 d).heap ++ os)[k]? = w.heap[k]?
   rw [Array.getElem?_append_left (by rw [hsz]; exact hk)]
   have : g ≠ k := by simpa using fun e => hn (by simp [e])
   simp [putRow, mapBlock, Sort.ahead, Array.getElem?_modify, this]
theorem sort_nums {w : World} {g cap : Nat} {l : List Int} (h : Holds (Value.int .i64) w g 0 l.toArray) (hg : g < w.heap.size) (hn : l.length ≤ 1000000) :
 Calls Tryz.prog 91 #[.slice (some ⟨g, 0, none⟩) l.length cap] w fun e w' => e = .returned (.tuple #[]) ∧ Turn [g] w w' := by
 refine (AnyM.slices_Sort_int Tryz.sortJ g 0 cap l w h hg (by omega)).mono ?_
 rintro e w' ⟨rfl, q, os, rfl⟩
 exact ⟨rfl, numRow_turn w g q _ os⟩
def idsL (t : Int) (l : List MsgV) : List Int := (l.filter (pBy t)).map MsgV.id
theorem idsL_len (t : Int) (l : List MsgV) : (idsL t l).length = cn (pBy t) l := by
 unfold idsL cn
 rw [List.length_map]
theorem idsL_next {t : Int} {l : List MsgV} {k : Nat} {x : MsgV} (h : l[k]? = some x) : idsL t (l.take (k + 1)) = if x.by_ = t then idsL t (l.take k) ++ [x.id] else idsL t (l.take k) := by
 unfold idsL pBy
 rw [List.take_add_one, h, List.filter_append, List.map_append]
 by_cases e : x.by_ = t
 · rw [if_pos e]
   simp [e]
 · rw [if_neg e]
   simp [e]
theorem holds_calls {w : World} {a : Ads} {s : StV} (h : StIs w a s) (hn : s.ms.length ≤ 1000000) (t : Int) :
 Calls Tryz.prog 41 #[.agg (s.cells a), .int .i64 t] w fun e w' => ∃ ao c, e = .returned (.slice ao (cn (pBy t) s.ms) c) ∧ Turn [] w w' := by
 have HMS := η h.ms
 have hlen := h.ms.len
 obtain ⟨n, hnn⟩ := ε s.ms.length
 have HN := η hnn
 have T0 := η (Turn.alloc [] w (.cells (s.cells a) 27))
 have BX0 := s.boxed a (Turn.refl [] (w.alloc (.cells (s.cells a) 27)))
 unfold StV.cells at *
 obtain ⟨c, hc⟩ := ε (cn (pBy t) s.ms)
 have HC := η hc
 rw [← hnn] at BX0 T0 hlen hn ⊢
 rw [← hc]
 clear hnn h hc
 obtain ⟨b0, b1, b2, b3, b4, b5, b6, b7, b8⟩ := BX0
 go_enter Tryz.func41, Tryz.ntmps41
 go_wp2_with fail
 generalize hx0 : w.alloc (.cells #[.int .i64 s.broker, .int .i64 s.nextId, .int .i64 s.nextSeq, .int .i64 s.tx, .slice a.m n a.cm, .slice a.w s.waits.length a.cw, .slice a.e s.ends.length a.ce, .slice a.o s.open_.length a.co, .slice a.n s.noes.length a.cn] 27) = x0 at *
 clear hx0 b0 b1 b2 b3 b4 b5 b6 b7 b8
 go_loopw [11, 5] (fun vi vv wx => ∃ (k : Nat) (u : Value), k ≤ n ∧ vi = .int .i64 (k : Int) ∧ u = vv ∧ wx.ownsRow x0.heap.size 2 1 u (idsL t (s.ms.take k)).length (nums (idsL t (s.ms.take k))) ∧ Turn [] x0 wx) (fun vi _ _ => n - (RowKit.intOf vi).toNat)
 case atStart => exact ⟨0, _, by omega, rfl, rfl, by simpa [nums, idsL] using World.ownsRow_nil _ _ _ _, Turn.refl _ _⟩
 case round =>
  obtain ⟨k, u, hk, rfl, rfl, hrow, ht⟩ := hrel
  have HT := η ht
  have HR := η hrow
  clear hrow ht
  by_cases hkn : k < n
  · have hkl : k < s.ms.length := by rw [← HN.out]; exact hkn
    obtain ⟨x, hx⟩ : ∃ x, s.ms[k]? = some x := ⟨_, List.getElem?_eq_getElem hkl⟩
    obtain ⟨b, off, hae, hat⟩ := (HMS.out.still (T0.out.trans HT.out)).at hx
    have q0 := hat 0 (.int .i64 x.id) rfl
    have q1 := hat 1 (.string x.queue) rfl
    have q2 := hat 2 (.string x.body) rfl
    have q3 := hat 3 (.int .i64 x.seq) rfl
    have q4 := hat 4 (.int .i64 x.count) rfl
    have q5 := hat 5 (.int .i64 x.by_) rfl
    rw [Nat.add_zero] at q0
    have hb2 : 0 ≤ (k : Int) ∧ (k : Int) < (n : Int) := by omega
    have HX0 := η (idsL_next (t := t) hx)
    have hl1 : (idsL t (s.ms.take k)).length ≤ 1000000 := by
     rw [idsL_len]
     have := cn_le (pBy t) s.ms k
     omega
    have HLEN := η hl1
    obtain ⟨i1, y, z, sq, ct, by1⟩ := x
    dsimp only at q0 q1 q2 q3 q4 q5 HX0
    have a0 : a.m = some ⟨b, off, none⟩ := hae
    rw [a0]
    clear hat hx hae hl1 a0
    by_cases hbt : by1 = t
    · have HX : Hid (idsL t (s.ms.take k) ++ [i1] = idsL t (s.ms.take (k + 1))) := η (by rw [HX0.out, if_pos hbt])
      have heq : (by1 == t) = true := by simpa using hbt
      have W1 := Turn.alloc [] wr (.cells #[.int .i64 i1, .string y, .string z, .int .i64 sq, .int .i64 ct, .int .i64 by1] 49)
      have e1 : (wr.alloc (.cells #[.int .i64 i1, .string y, .string z, .int .i64 sq, .int .i64 ct, .int .i64 by1] 49)).heap.size = wr.heap.size + 1 := by simp
      have T2 := η (W1.trans (Turn.alloc [] _ (.cells #[.int .i64 i1] 2)))
      have R2 := η (ownsRow_turn HR.out T2.out)
      have Q2 : Hid (((wr.alloc (.cells #[.int .i64 i1, .string y, .string z, .int .i64 sq, .int .i64 ct, .int .i64 by1] 49)).alloc (.cells #[.int .i64 i1] 2)).cell? ⟨wr.heap.size + 1, 0, none⟩ = some (.int .i64 i1)) := η (by
       rw [← e1, World.cell?_alloc_at (hn := rfl)]
       rfl)
      have LO := η (row_lo10 R2.out)
      have SB : Hid (x0.heap.size ≤ ((wr.alloc (.cells #[.int .i64 i1, .string y, .string z, .int .i64 sq, .int .i64 ct, .int .i64 by1] 49)).alloc (.cells #[.int .i64 i1] 2)).heap.size) := η (HT.out.trans T2.out).size
      clear e1 W1 HX0 hbt
      go_wp2_with (at_builtin; refine append_num rfl (.tmp 19) (.tmp 22) rfl x0.heap.size u _ rfl R2.out SB.out (wr.heap.size + 1) i1 rfl Q2.out HLEN.out ?_; intro v1 w1 r1 g1 o1)
      rw [HX.out] at r1
      have R3 := η r1
      have T3 := η ((HT.out.trans T2.out).trans (Turn.grown (l := u.ownBlock.toList) g1 (fun k hk => .inl (by simp [hk]))) (fun i hi => .inr (LO.out i (by simpa using hi))))
      clear r1 g1 o1
      go_wp2_with fail
      go_roundw
      case rel => exact ⟨k + 1, _, by omega, by go_num, rfl, R3.out, T3.out⟩
      case measure => simp [RowKit.intOf]; omega
    · have HX : Hid (idsL t (s.ms.take k) = idsL t (s.ms.take (k + 1))) := η (by rw [HX0.out, if_neg hbt])
      have heq : (by1 == t) = false := by simpa using hbt
      have T3 := η (HT.out.trans (Turn.alloc [] wr (.cells #[.int .i64 i1, .string y, .string z, .int .i64 sq, .int .i64 ct, .int .i64 by1] 49)))
      have R3 := η (ownsRow_turn HR.out (Turn.alloc [] wr (.cells #[.int .i64 i1, .string y, .string z, .int .i64 sq, .int .i64 ct, .int .i64 by1] 49)))
      rw [HX.out] at R3
      clear HX0 hbt HR
      go_wp2_with fail
      go_roundw
      case rel => exact ⟨k + 1, _, by omega, by go_num, rfl, R3.out, T3.out⟩
      case measure => simp [RowKit.intOf]; omega
  · have hkk : k = n := by omega
    have HF : Hid (s.ms.take k = s.ms) := η (List.take_of_length_le (by rw [hkk, HN.out]; exact Nat.le_refl _))
    have hr := HR.out
    rw [HF.out] at hr
    have HL : Hid ((idsL t s.ms).length = c) := η (by rw [idsL_len, HC.out])
    have hle := cn_all (pBy t) s.ms
    rw [← HN.out, ← HC.out] at hle
    obtain ⟨Z, hZ⟩ := ε (idsL t s.ms)
    rw [← hZ] at hr HL
    clear hZ HF HR HC
    rcases hr.2 with ⟨rfl, h0⟩ | ⟨g, cap, cur, rfl, hlo, hg, hle2, hmx, hsz, htk⟩
    · have hc0 : Hid (c = 0) := η (by rw [← HL.out]; exact h0)
      have CS := η (fun wx => AnyM.slices_Sort_int_none Tryz.sortJ none 0 wx)
      have e1 : Tryz.sortJ_ren.f 5 = 91 := rfl
      rw [e1] at CS
      clear h0 hr e1 hle
      go_wp2_with fail
      refine (CS.out _).mono ?_
      rintro e w2 ⟨rfl, rfl⟩
      go_wp2_with fail
      go_ret
      exact ⟨none, 0, by rw [hc0.out]; rfl, T0.out.trans HT.out⟩
    · have hlg := lt_of_heap hg
      have hH := nums_holds hr
      have CS := η (sort_nums (cap := cap) hH hlg (by rw [HL.out]; omega))
      rw [HL.out] at CS
      rw [HL.out]
      have HLO := η (Nat.le_trans T0.out.size hlo)
      clear hlg hH hlo hg hle2 hmx hsz htk hr hle
      go_wp2_with fail
      refine CS.out.mono ?_
      rintro e w2 ⟨rfl, t2⟩
      have T2 := η ((T0.out.trans HT.out).trans t2 (fun i hi => .inr (by simp at hi; have := HLO.out; omega)))
      clear t2
      go_wp2_with fail
      go_ret
      exact ⟨_, _, rfl, T2.out⟩
end Go.Proofs.YtlmefpanoimkcaaGreat
set_option maxHeartbeats 8000000
set_option maxRecDepth 100000
namespace Go.Proofs.YtlmefpanoimkcaaGreat
open Go.RowKit Go.Proofs.YtlmefpanoimkcaaGreat.V
open Go.Sort Go.Shelf Go.Maps
theorem Tryz.sortsI (m : Nat) : AnyZI.SortsIn Tryz.prog Tryz.sortedI_ren Fence.wide m :=
 ⟨fun blk off cap ss W hH hblk hsz => callsIn_wide.2 (AnyM.slices_Sort_int Tryz.sortJ blk off cap ss W hH hblk hsz),
  fun p cap W => callsIn_wide.2 (AnyM.slices_Sort_int_none Tryz.sortJ p cap W)⟩
theorem wf_ok {x : Int} (h : okI x) : (Lit.int .i64 x).wf = true := by
 show (decide (IntKind.i64.min ≤ x) && decide (x ≤ IntKind.i64.max)) = true
 rw [show IntKind.i64.min = -9223372036854775808 by decide, show IntKind.i64.max = 9223372036854775807 by decide, decide_eq_true h.1, decide_eq_true h.2]
 rfl
def Zs (w : World) (ao : Option Addr) (R : List Int) : Prop := ∀ j x, R[j]? = some x → ∃ g, ao = some ⟨g, 0, none⟩ ∧ w.cell? ⟨g, j, none⟩ = some (.int .i64 x)
theorem keys_calls (m : Nat) (w : World) : Calls Tryz.prog 90 #[.map (some m)] w fun e w' => e = .returned (.func (.func 159) #[] #[.pointer (some ⟨w.heap.size, 0, none⟩)]) ∧ w' = w.alloc (.cells #[.map (some m)] 108) :=
 (callsIn_wide (n := 5)).1 (AnyZI.keys_in Tryz.keysI Fence.wide 5 trivial rfl (some m) w)
theorem zs_row {w : World} {B n : Nat} {v : Value} {R : List Int} (h : w.ownsRow B 2 1 v n (R.map (Value.int .i64))) : ∃ ao c, v = .slice ao n c ∧ Zs w ao R := by
 rcases h.2 with ⟨e, h0⟩ | ⟨g, cap, cur, e, _, hg, h1, h2, h3, h4⟩
 · have hl := h.1
   rw [List.length_map] at hl
   have hr : R = [] := List.eq_nil_of_length_eq_zero (by omega)
   exact ⟨none, 0, by rw [e, h0], fun j x hj => by rw [hr] at hj; cases hj⟩
 · subst e
   refine ⟨_, _, rfl, fun j x hj => ⟨g, rfl, ?_⟩⟩
   have hc := h.cells (g := g) rfl j (.int .i64 x) (by rw [List.getElem?_map, hj]; rfl)
   rw [Addr.add_lit, Nat.zero_add] at hc
   exact hc
theorem sorted_calls {w : World} {m : Nat} {L : List Int} (h : SetIs w m L) (hn : L.length ≤ 1000000) :
 Calls Tryz.prog 89 #[.func (.func 159) #[] #[.pointer (some ⟨w.heap.size, 0, none⟩)]] (w.alloc (.cells #[.map (some m)] 108)) fun e w' => ∃ ao c R, e = .returned (.slice ao R.length c) ∧ R.Perm L ∧ Zs w' ao R ∧ Turn [] w w' := by
 obtain ⟨hnd, es, hown, hp⟩ := h
 have hbl := hown.lt
 have hsize : Maps.size (DataW.map es) = L.length := by
  show es.length = _
  rw [hp.length_eq, List.length_map]
 have hk : (intKeys (.map es)).Perm L := by
  have h1 : (es.map fun p => Go.intOf p.1).Perm ((L.map entZ).map fun p => Go.intOf p.1) := hp.map _
  rw [List.map_map] at h1
  refine List.Perm.trans (List.Perm.of_eq rfl) (h1.trans (List.Perm.of_eq ?_))
  rw [show ((fun p : Lit × DataW Unit => Go.intOf p.1) ∘ entZ) = id from rfl, List.map_id]
 have hseq : SeqGives Fence.wide 2 Tryz.prog 159 #[.pointer (some ⟨w.heap.size, 0, none⟩)] encZ (fun ss => ss.Perm (intKeys (.map es))) (Maps.size (DataW.map es)) (w.alloc (.cells #[.map (some m)] 108)) :=
  AnyZI.keys_gives (ρ := Tryz.keysI_ren) { Tryz.keysI with } Fence.wide _ trivial rfl (by omega) w.heap.size m _ (.map es) _ (by simp) (by simp) (by
   obtain ⟨es0, clock, hb, Ft, hs, hD⟩ := hown
   exact ⟨es0, clock, (Below.heap_alloc _ _ m hbl).trans hb, Ft, hs, hD⟩)
 have cS := AnyZI.sorted_in Tryz.sortedI Fence.wide 5 trivial trivial trivial trivial rfl (by omega) (Tryz.sortsI _) (enters_of Tryz.func91 (by kernel_rfl) rfl) 159 #[.pointer (some ⟨w.heap.size, 0, none⟩)] trivial (enters_of Tryz.func159 (by kernel_rfl) rfl) _ _ (by rw [hsize]; unfold maxLen; omega) (by rw [hsize]; omega) _ hseq
 change CallsIn _ _ Tryz.prog 89 _ _ _ at cS
 refine ((callsIn_wide (n := 5)).1 cS).mono ?_
 rintro e w' ⟨v, ss, rfl, hS, hrow, hnil, hb⟩
 have hl : (ss.mergeSort fun x y => decide (x ≤ y)).length = ss.length := List.length_mergeSort _
 obtain ⟨ao, c, rfl, hz⟩ := zs_row hrow
 exact ⟨ao, c, _, by rw [hl], (List.mergeSort_perm _ _).trans (hS.trans hk), hz, (Turn.alloc [] w _).trans (Turn.of_below hb [])⟩
theorem loose_calls {w : World} {a : Ads} {s : StV} (h : StIs w a s) (hf : s.fit) (hn : s.ms.length ≤ 1000000) :
 Calls Tryz.prog 38 #[.agg (s.cells a)] w fun e w' => ∃ ao c R, e = .returned (.slice ao R.length c) ∧ R.Nodup ∧ (∀ y, y ∈ R ↔ LooseP s y) ∧ Zs w' ao R ∧ R.length ≤ 1000000 ∧ Turn [] w w' := by
 have HMS := η h.ms
 have hlen := h.ms.len
 have hlenw := h.waits.len
 have hleno := h.open_.len
 obtain ⟨LW, hLW, hTW, -⟩ := h.waits
 obtain ⟨LO, hLO, hTO, -⟩ := h.open_
 have HLW := η hLW
 have HTW := η hTW
 have HLO := η hLO
 have HTO := η hTO
 have HF := η hf
 have HHE := η held_calls
 have HKY := η keys_calls
 have HSO := η (fun (wx : World) (m : Nat) (L : List Int) (hs : SetIs wx m L) (hl : L.length ≤ 1000000) => sorted_calls hs hl)
 obtain ⟨n, hn1⟩ := ε s.ms.length
 obtain ⟨n2, hn2⟩ := ε s.waits.length
 obtain ⟨n3, hn3⟩ := ε s.open_.length
 have HN1 := η hn1
 have HN2 := η hn2
 have HN3 := η hn3
 rw [← hn1] at hlen hn
 rw [← hn2] at hlenw
 rw [← hn3] at hleno
 unfold StV.cells
 rw [← hn1, ← hn2, ← hn3]
 have HNN := η hn
 clear h hf hLW hTW hLO hTO hn1 hn2 hn3 hn
 obtain ⟨b, hbd⟩ := ε w.heap.size
 have HBD := η hbd
 go_enter Tryz.func38, Tryz.ntmps38
 have hmm := @run_makeMap Tryz.prog
 go_upto_region 2 with fail
 clear hmm
 have hbx := (Turn.alloc [] (w.alloc (.cells #[.int .i64 s.broker, .int .i64 s.nextId, .int .i64 s.nextSeq, .int .i64 s.tx, .slice a.m n a.cm, .slice a.w n2 a.cw, .slice a.e s.ends.length a.ce, .slice a.o n3 a.co, .slice a.n s.noes.length a.cn] 27)) (.map #[] 0)).heap (heap_alloc_new w (.cells #[.int .i64 s.broker, .int .i64 s.nextId, .int .i64 s.nextSeq, .int .i64 s.tx, .slice a.m n a.cm, .slice a.w n2 a.cw, .slice a.e s.ends.length a.ce, .slice a.o n3 a.co, .slice a.n s.noes.length a.cn] 27))
 have S0 := SetIs.made (w.alloc (.cells #[.int .i64 s.broker, .int .i64 s.nextId, .int .i64 s.nextSeq, .int .i64 s.tx, .slice a.m n a.cm, .slice a.w n2 a.cw, .slice a.e s.ends.length a.ce, .slice a.o n3 a.co, .slice a.n s.noes.length a.cn] 27))
 rw [show (w.alloc (.cells #[.int .i64 s.broker, .int .i64 s.nextId, .int .i64 s.nextSeq, .int .i64 s.tx, .slice a.m n a.cm, .slice a.w n2 a.cw, .slice a.e s.ends.length a.ce, .slice a.o n3 a.co, .slice a.n s.noes.length a.cn] 27)).heap.size = w.heap.size + 1 by simp] at S0
 have T1 := η ((Turn.alloc [] w (.cells #[.int .i64 s.broker, .int .i64 s.nextId, .int .i64 s.nextSeq, .int .i64 s.tx, .slice a.m n a.cm, .slice a.w n2 a.cw, .slice a.e s.ends.length a.ce, .slice a.o n3 a.co, .slice a.n s.noes.length a.cn] 27)).trans (Turn.alloc [] (w.alloc (.cells #[.int .i64 s.broker, .int .i64 s.nextId, .int .i64 s.nextSeq, .int .i64 s.tx, .slice a.m n a.cm, .slice a.w n2 a.cw, .slice a.e s.ends.length a.ce, .slice a.o n3 a.co, .slice a.n s.noes.length a.cn] 27)) (.map #[] 0)))
 generalize (w.alloc (.cells #[.int .i64 s.broker, .int .i64 s.nextId, .int .i64 s.nextSeq, .int .i64 s.tx, .slice a.m n a.cm, .slice a.w n2 a.cw, .slice a.e s.ends.length a.ce, .slice a.o n3 a.co, .slice a.n s.noes.length a.cn] 27)).alloc (.map #[] 0) = x1 at *
 rw [← hbd] at hbx S0 ⊢
 obtain ⟨m, hmd⟩ := ε (b + 1)
 rw [← hmd] at S0 ⊢
 have HMD := η hmd
 have HBX := η hbx
 have HS0 := η S0
 have BX : Hid (∀ wx, Turn [m] x1 wx → wx.heap[b]? = some (.cells #[.int .i64 s.broker, .int .i64 s.nextId, .int .i64 s.nextSeq, .int .i64 s.tx, .slice a.m n a.cm, .slice a.w n2 a.cw, .slice a.e s.ends.length a.ce, .slice a.o n3 a.co, .slice a.n s.noes.length a.cn] 27)) := η (fun wx tx => tx.heap HBX.out (by have := HMD.out; simp; omega))
 have TW : Hid (∀ wx, Turn [m] x1 wx → Turn [] w wx) := η (fun wx tx => T1.out.trans tx (fun i hi => .inr (by have := HMD.out; have := HBD.out; simp at hi; omega)))
 obtain ⟨c0, c1, c2, c3, c4, c5, c6, c7, c8⟩ := nine_of HBX.out
 clear hbd hbx S0 hmd
 go_wp2_with fail
 clear c0 c1 c2 c3 c4 c5 c6 c7 c8
 go_loopw [14] (fun vi wx => ∃ (k : Nat) (L : List Int), k ≤ n ∧ vi = .int .i64 (k : Int) ∧ SetIs wx m L ∧ L.length ≤ k ∧ (∀ y, y ∈ L ↔ (∃ x ∈ s.ms.take k, x.by_ = y) ∧ y ≠ 0) ∧ Turn [m] x1 wx) (fun vi _ => n - (RowKit.intOf vi).toNat)
 case atStart => exact ⟨0, [], by omega, rfl, HS0.out, by simp, by simp, Turn.refl _ _⟩
 case round =>
  obtain ⟨k, L, hk, rfl, hset, hll, hmem, ht⟩ := hrel
  have HT := η ht
  have HS := η hset
  have HL := η hmem
  have HLL := η hll
  clear ht hset hmem hll
  by_cases hkn : k < n
  · have hkl : k < s.ms.length := by rw [← HN1.out]; exact hkn
    obtain ⟨x, hx⟩ : ∃ x, s.ms[k]? = some x := ⟨_, List.getElem?_eq_getElem hkl⟩
    obtain ⟨g, off, hae, hat⟩ := (HMS.out.still (TW.out _ HT.out)).at hx
    have a0 : a.m = some ⟨g, off, none⟩ := hae
    have q0 := hat 0 (.int .i64 x.id) rfl
    have q1 := hat 1 (.string x.queue) rfl
    have q2 := hat 2 (.string x.body) rfl
    have q3 := hat 3 (.int .i64 x.seq) rfl
    have q4 := hat 4 (.int .i64 x.count) rfl
    have q5 := hat 5 (.int .i64 x.by_) rfl
    rw [Nat.add_zero] at q0
    have CH := η (HHE.out x)
    have HOK := η (HF.out.ms x (List.mem_of_getElem? hx)).2.2.2.1
    have HNX : Hid (∀ y, (∃ z ∈ s.ms.take (k + 1), z.by_ = y) ↔ (∃ z ∈ s.ms.take k, z.by_ = y) ∨ x.by_ = y) := η (fun y => by
     rw [List.take_add_one, hx]
     simp only [List.mem_append, Option.toList_some, List.mem_singleton]
     constructor
     · rintro ⟨z, hz | rfl, e⟩
       · exact .inl ⟨z, hz, e⟩
       · exact .inr e
     · rintro (⟨z, hz, e⟩ | e)
       · exact ⟨z, .inl hz, e⟩
       · exact ⟨x, .inr rfl, e⟩)
    have hb2 : 0 ≤ (k : Int) ∧ (k : Int) < (n : Int) := by omega
    have TB := η (Turn.alloc [] wr (.cells #[.int .i64 x.id, .string x.queue, .string x.body, .int .i64 x.seq, .int .i64 x.count, .int .i64 x.by_] 49))
    have XB : Hid (∀ wy, Turn [] (wr.alloc (.cells #[.int .i64 x.id, .string x.queue, .string x.body, .int .i64 x.seq, .int .i64 x.count, .int .i64 x.by_] 49)) wy → wy.heap[wr.heap.size]? = some (.cells #[.int .i64 x.id, .string x.queue, .string x.body, .int .i64 x.seq, .int .i64 x.count, .int .i64 x.by_] 49)) := η (fun wy ty => ty.heap (heap_alloc_new wr _))
    rw [a0]
    obtain ⟨rb, hrb⟩ := ε (decide (x.by_ = 0))
    rw [← hrb] at CH
    have HRB := η hrb
    obtain ⟨i1, qu, bd, sq, ct, by1⟩ := x
    unfold msgC at CH
    dsimp only at q0 q1 q2 q3 q4 q5 TB XB CH HOK HNX HRB
    clear hat hae hx hkl a0 hrb
    go_wp2_with fail
    refine (CH.out _).mono ?_
    rintro e x2 ⟨rfl, t2⟩
    have T2 := η (TB.out.trans t2)
    have XB2 := η (XB.out _ t2)
    clear t2 CH XB TB q0 q1 q2 q3 q4 q5
    have T3 := η (HT.out.trans T2.out)
    have HS2 := η (HS.out.turn T2.out (by simp))
    clear HS HT T2
    cases rb with
    | true =>
     have h0 : by1 = 0 := of_decide_eq_true HRB.out.symm
     clear XB2
     go_wp2_with fail
     go_roundw
     case rel =>
      refine ⟨k + 1, L, by omega, by go_num, HS2.out, by have := HLL.out; omega, fun y => ?_, T3.out⟩
      rw [HL.out, HNX.out]
      constructor
      · rintro ⟨h1, h2⟩
        exact ⟨.inl h1, h2⟩
      · rintro ⟨h1 | h1, h2⟩
        · exact ⟨h1, h2⟩
        · exact absurd (h1.symm.trans h0) h2
     case measure => simp [RowKit.intOf]; omega
    | false =>
     have H0 := η (show by1 ≠ 0 from of_decide_eq_false HRB.out.symm)
     obtain ⟨hnd, es, ho, hp⟩ := HS2.out
     have HND := η hnd
     have HO := η ho
     have HP := η hp
     have hkey := key_int (x := by1) (wf_ok HOK.out)
     have HLM : Hid (L.length < maxLen) := η (by have := HLL.out; have := HNN.out; unfold maxLen; omega)
     obtain ⟨m0, m1, m2, m3, m4, m5⟩ := six_ofA XB2.out
     clear hnd ho hp HRB
     go_wp2_with (at_mapUpdate; refine wpList_mapUpdate_in _ rfl _ _ _ 108 rfl 2 109 int_law Tryz.underlying108 unitElem m _ _ rfl HO.out HLM.out _ _ _ rfl rfl hkey (.agg []) [] unitElem_mk ?_; intro w1 hown1 hturn1)
     have S4 := η (SetIs.stored HND.out HP.out by1 hown1)
     have T4 := η (T3.out.trans (Turn.grown (l := [m]) hturn1.grown (fun k hk => .inl (by cases hk; exact List.mem_singleton.2 rfl))) (fun i hi => .inl hi))
     clear hown1 hturn1 m0 m1 m2 m3 m4 m5 hkey
     go_wp2_with fail
     go_roundw
     case rel =>
      refine ⟨k + 1, insS L by1, by omega, by go_num, S4.out, by have := HLL.out; have := insS_len L by1; omega, fun y => ?_, T4.out⟩
      rw [mem_insS, HL.out, HNX.out]
      constructor
      · rintro (⟨h1, h2⟩ | h1)
        · exact ⟨.inl h1, h2⟩
        · exact ⟨.inr h1.symm, by rw [h1]; exact H0.out⟩
      · rintro ⟨h1 | h1, h2⟩
        · exact .inl ⟨h1, h2⟩
        · exact .inr h1.symm
     case measure => simp [RowKit.intOf]; omega
  · have hkk : k = n := by omega
    have HTK : Hid (s.ms.take k = s.ms) := η (List.take_of_length_le (by rw [hkk, HN1.out]; exact Nat.le_refl _))
    have HL1 : Hid (∀ y, y ∈ L ↔ ((∃ x ∈ s.ms, x.by_ = y) ∧ y ≠ 0) ∧ ∀ z ∈ s.waits.take 0, z.tid ≠ y) := η (fun y => by rw [HL.out, HTK.out]; simp)
    have HLM : Hid (L.length ≤ 1000000) := η (by have := HLL.out; have := HNN.out; omega)
    clear HTK HL HLL
    subst hkk
    obtain ⟨c0, c1, c2, c3, c4, c5, c6, c7, c8⟩ := nine_of (BX.out _ HT.out)
    go_wp2_with fail
    clear c0 c1 c2 c3 c4 c5 c6 c7 c8
    have HSA := η HS.out
    have HTA := η HT.out
    clear HS HT
    go_loopw [28] (fun vi wx => ∃ (j : Nat) (L : List Int), j ≤ n2 ∧ vi = .int .i64 (j : Int) ∧ SetIs wx m L ∧ L.length ≤ 1000000 ∧ (∀ y, y ∈ L ↔ ((∃ x ∈ s.ms, x.by_ = y) ∧ y ≠ 0) ∧ ∀ z ∈ s.waits.take j, z.tid ≠ y) ∧ Turn [m] x1 wx) (fun vi _ => n2 - (RowKit.intOf vi).toNat)
    case atStart => exact ⟨0, L, by omega, rfl, HSA.out, HLM.out, HL1.out, HTA.out⟩
    case round =>
     clear HSA HLM HL1 HTA
     obtain ⟨j, L, hj, rfl, hset, hll, hmem, ht⟩ := hrel
     have HT := η ht
     have HS := η hset
     have HL := η hmem
     have HLL := η hll
     clear ht hset hmem hll
     by_cases hjn : j < n2
     · have hjl0 : j < s.waits.length := by rw [← HN2.out]; exact hjn
       have hjl : j < LW.length := by rw [← List.length_map (f := Lay.v), HLW.out]; exact hjl0
       obtain ⟨x, hx⟩ : ∃ x, LW[j]? = some x := ⟨_, List.getElem?_eq_getElem hjl⟩
       have hlx : s.waits[j]? = some x.v := by rw [← HLW.out, List.getElem?_map, hx]; rfl
       obtain ⟨g, off, hae, hat⟩ := (HTW.out.still (TW.out _ HT.out)).at hx
       have a0 : a.w = some ⟨g, off, none⟩ := hae
       have q0 := hat 0 (.int .i64 x.v.tid) rfl
       have q1 := hat 1 (.slice x.ao x.v.puts.length x.c) rfl
       rw [Nat.add_zero] at q0
       have HNX : Hid (∀ y, (∀ z ∈ s.waits.take (j + 1), z.tid ≠ y) ↔ (∀ z ∈ s.waits.take j, z.tid ≠ y) ∧ y ≠ x.v.tid) := η (fun y => by
        rw [List.take_add_one, hlx]
        simp only [List.mem_append, Option.toList_some, List.mem_singleton]
        constructor
        · intro h
          exact ⟨fun z hz => h z (.inl hz), fun e => h x.v (.inr rfl) e.symm⟩
        · rintro ⟨h1, h2⟩ z (hz | rfl)
          · exact h1 z hz
          · exact fun e => h2 e.symm)
       have HOK := η (HF.out.waits x.v (List.mem_of_getElem? hlx))
       obtain ⟨ti, hti⟩ := ε x.v.tid
       obtain ⟨np, hnp⟩ := ε x.v.puts.length
       rw [← hti] at q0 HNX HOK
       rw [← hnp] at q1
       have hb2 : 0 ≤ (j : Int) ∧ (j : Int) < (n2 : Int) := by omega
       have TB := η (Turn.alloc [] wr (.cells #[.int .i64 ti, .slice x.ao np x.c] 81))
       have HS2 := HS.out.turn TB.out (by simp)
       obtain ⟨hnd, es, ho, hp⟩ := HS2
       have HND := η hnd
       have HO := η ho
       have HP := η hp
       have hkey := key_int (x := ti) (wf_ok HOK.out)
       rw [a0]
       clear hat hae hx hjl0 hjl hlx a0 hti hnp hnd ho hp HS
       go_wp2_with (at_delete; refine wpList_delete_own _ rfl _ _ 108 2 rfl 109 int_law Tryz.underlying108 unitElem m _ _ rfl HO.out _ _ rfl hkey ?_; intro w1 hown1 hturn1)
       have S4 := η (SetIs.deleted HND.out HP.out ti hown1)
       have T4 := η ((HT.out.trans TB.out).trans (Turn.grown (l := [m]) hturn1.grown (fun k hk => .inl (by cases hk; exact List.mem_singleton.2 rfl))) (fun i hi => .inl hi))
       clear hown1 hturn1 hkey q0 q1
       go_wp2_with fail
       go_roundw
       case rel =>
        refine ⟨j + 1, delS L ti, by omega, by go_num, S4.out, by have := HLL.out; have := delS_len L ti; omega, fun y => ?_, T4.out⟩
        rw [mem_delS, HL.out, HNX.out]
        exact and_assoc
       case measure => simp [RowKit.intOf]; omega
     · have hjj : j = n2 := by omega
       have HTK : Hid (s.waits.take j = s.waits) := η (List.take_of_length_le (by rw [hjj, HN2.out]; exact Nat.le_refl _))
       have HL1 : Hid (∀ y, y ∈ L ↔ (((∃ x ∈ s.ms, x.by_ = y) ∧ y ≠ 0) ∧ ∀ z ∈ s.waits, z.tid ≠ y) ∧ ∀ z ∈ s.open_.take 0, z.tid ≠ y) := η (fun y => by rw [HL.out, HTK.out]; simp)
       clear HTK HL
       subst hjj
       obtain ⟨c0, c1, c2, c3, c4, c5, c6, c7, c8⟩ := nine_of (BX.out _ HT.out)
       go_wp2_with fail
       clear c0 c1 c2 c3 c4 c5 c6 c7 c8
       have HSA := η HS.out
       have HTA := η HT.out
       have HLM := η HLL.out
       clear HS HT HLL
       go_loopw [39] (fun vi wx => ∃ (j : Nat) (L : List Int), j ≤ n3 ∧ vi = .int .i64 (j : Int) ∧ SetIs wx m L ∧ L.length ≤ 1000000 ∧ (∀ y, y ∈ L ↔ (((∃ x ∈ s.ms, x.by_ = y) ∧ y ≠ 0) ∧ ∀ z ∈ s.waits, z.tid ≠ y) ∧ ∀ z ∈ s.open_.take j, z.tid ≠ y) ∧ Turn [m] x1 wx) (fun vi _ => n3 - (RowKit.intOf vi).toNat)
       case atStart => exact ⟨0, L, by omega, rfl, HSA.out, HLM.out, HL1.out, HTA.out⟩
       case round =>
        clear HSA HLM HL1 HTA
        obtain ⟨j, L, hj, rfl, hset, hll, hmem, ht⟩ := hrel
        have HT := η ht
        have HS := η hset
        have HL := η hmem
        have HLL := η hll
        clear ht hset hmem hll
        by_cases hjn : j < n3
        · have hjl0 : j < s.open_.length := by rw [← HN3.out]; exact hjn
          have hjl : j < LO.length := by rw [← List.length_map (f := Lay.v), HLO.out]; exact hjl0
          obtain ⟨x, hx⟩ : ∃ x, LO[j]? = some x := ⟨_, List.getElem?_eq_getElem hjl⟩
          have hlx : s.open_[j]? = some x.v := by rw [← HLO.out, List.getElem?_map, hx]; rfl
          obtain ⟨g, off, hae, hat⟩ := (HTO.out.still (TW.out _ HT.out)).at hx
          have a0 : a.o = some ⟨g, off, none⟩ := hae
          have q0 := hat 0 (.int .i64 x.v.tid) rfl
          have q1 := hat 1 (.slice x.ao x.v.parts.length x.c) rfl
          rw [Nat.add_zero] at q0
          have HNX : Hid (∀ y, (∀ z ∈ s.open_.take (j + 1), z.tid ≠ y) ↔ (∀ z ∈ s.open_.take j, z.tid ≠ y) ∧ y ≠ x.v.tid) := η (fun y => by
           rw [List.take_add_one, hlx]
           simp only [List.mem_append, Option.toList_some, List.mem_singleton]
           constructor
           · intro h
             exact ⟨fun z hz => h z (.inl hz), fun e => h x.v (.inr rfl) e.symm⟩
           · rintro ⟨h1, h2⟩ z (hz | rfl)
             · exact h1 z hz
             · exact fun e => h2 e.symm)
          have HOK := η (HF.out.open_ x.v (List.mem_of_getElem? hlx))
          obtain ⟨ti, hti⟩ := ε x.v.tid
          obtain ⟨np, hnp⟩ := ε x.v.parts.length
          rw [← hti] at q0 HNX HOK
          rw [← hnp] at q1
          have hb2 : 0 ≤ (j : Int) ∧ (j : Int) < (n3 : Int) := by omega
          have TB := η (Turn.alloc [] wr (.cells #[.int .i64 ti, .slice x.ao np x.c] 65))
          have HS2 := HS.out.turn TB.out (by simp)
          obtain ⟨hnd, es, ho, hp⟩ := HS2
          have HND := η hnd
          have HO := η ho
          have HP := η hp
          have hkey := key_int (x := ti) (wf_ok HOK.out)
          rw [a0]
          clear hat hae hx hjl0 hjl hlx a0 hti hnp hnd ho hp HS
          go_wp2_with (at_delete; refine wpList_delete_own _ rfl _ _ 108 2 rfl 109 int_law Tryz.underlying108 unitElem m _ _ rfl HO.out _ _ rfl hkey ?_; intro w1 hown1 hturn1)
          have S4 := η (SetIs.deleted HND.out HP.out ti hown1)
          have T4 := η ((HT.out.trans TB.out).trans (Turn.grown (l := [m]) hturn1.grown (fun k hk => .inl (by cases hk; exact List.mem_singleton.2 rfl))) (fun i hi => .inl hi))
          clear hown1 hturn1 hkey q0 q1
          go_wp2_with fail
          go_roundw
          case rel =>
           refine ⟨j + 1, delS L ti, by omega, by go_num, S4.out, by have := HLL.out; have := delS_len L ti; omega, fun y => ?_, T4.out⟩
           rw [mem_delS, HL.out, HNX.out]
           exact and_assoc
          case measure => simp [RowKit.intOf]; omega
        · have hjj : j = n3 := by omega
          have HTK : Hid (s.open_.take j = s.open_) := η (List.take_of_length_le (by rw [hjj, HN3.out]; exact Nat.le_refl _))
          subst hjj
          have KY := HKY.out m wr
          have SO := HSO.out wr m L HS.out HLL.out
          have KY := η KY
          have SO := η SO
          go_wp2_with fail
          refine KY.out.mono ?_
          rintro e y1 ⟨rfl, rfl⟩
          go_wp2_with fail
          refine SO.out.mono ?_
          rintro e y2 ⟨ao, c, R, rfl, hperm, hz, t2⟩
          have HPM := η hperm
          have HZ := η hz
          have T2 := η ((TW.out _ HT.out).trans t2)
          clear hperm hz t2
          go_wp2_with fail
          go_ret
          refine ⟨ao, c, R, rfl, HPM.out.nodup_iff.2 HS.out.1, fun y => ?_, HZ.out, by rw [HPM.out.length_eq]; exact HLL.out, T2.out⟩
          rw [HPM.out.mem_iff, HL.out, HTK.out]
          unfold LooseP
          constructor
          · rintro ⟨⟨⟨h1, h2⟩, h3⟩, h4⟩
            exact ⟨h1, h2, h3, h4⟩
          · rintro ⟨h1, h2, h3, h4⟩
            exact ⟨⟨⟨h1, h2⟩, h3⟩, h4⟩
end Go.Proofs.YtlmefpanoimkcaaGreat
set_option maxHeartbeats 16000000
set_option maxRecDepth 100000
namespace Go.Proofs.YtlmefpanoimkcaaGreat
open Go.RowKit Go.Proofs.YtlmefpanoimkcaaGreat.V
theorem orderHolds_walk {w : World} (s : StV) (a : Ads) (hs : StX w a s) (hf : s.fit) (hz : s.ms.length * 64 ≤ 140737488355328 ∧ s.waits.length * 32 ≤ 140737488355328 ∧ s.ends.length * 16 ≤ 140737488355328 ∧ s.open_.length * 32 ≤ 140737488355328 ∧ s.noes.length * 32 ≤ 140737488355328) :
 Calls Tryz.prog 15 #[.agg (s.cells a)] w fun e w' => e = .returned (.bool true) ∧ Below w.heap.size w w' := by
 have CS := η (fun wx (t : Turn [] w wx) => lawState_calls t hs hf hz)
 have HD := η (cut_deep hs.deep)
 have HFT := η (cut_fit hf)
 obtain ⟨s', hs'⟩ : ∃ x, x = cutS s := ⟨_, rfl⟩
 rw [← hs'] at CS HD HFT
 clear hs hf hz hs'
 unfold StV.cells at *
 obtain ⟨b, hbd⟩ := ε w.heap.size
 have HBD := η hbd
 go_enter Tryz.func15, Tryz.ntmps15
 go_upto_region 1 with fail
 have hb1 := heap_alloc_new w (.cells #[.int .i64 s.broker, .int .i64 s.nextId, .int .i64 s.nextSeq, .int .i64 s.tx, .slice a.m s.ms.length a.cm, .slice a.w s.waits.length a.cw, .slice a.e s.ends.length a.ce, .slice a.o s.open_.length a.co, .slice a.n s.noes.length a.cn] 27)
 have T0 := η (Turn.alloc [] w (.cells #[.int .i64 s.broker, .int .i64 s.nextId, .int .i64 s.nextSeq, .int .i64 s.tx, .slice a.m s.ms.length a.cm, .slice a.w s.waits.length a.cw, .slice a.e s.ends.length a.ce, .slice a.o s.open_.length a.co, .slice a.n s.noes.length a.cn] 27))
 generalize w.alloc (.cells #[.int .i64 s.broker, .int .i64 s.nextId, .int .i64 s.nextSeq, .int .i64 s.tx, .slice a.m s.ms.length a.cm, .slice a.w s.waits.length a.cw, .slice a.e s.ends.length a.ce, .slice a.o s.open_.length a.co, .slice a.n s.noes.length a.cn] 27) = y0 at *
 rw [← hbd] at hb1 ⊢
 have HB1 := η hb1
 clear hb1 hbd
 go_wp2_with fail
 refine (begun10_calls y0).mono ?_
 rintro e x1 ⟨rfl, t1⟩
 have HC1 := η (t1.heap HB1.out)
 have T1 := η (T0.out.trans t1)
 clear t1 HB1 T0
 obtain ⟨c0, c1, c2, c3, c4, c5, c6, c7, c8⟩ := nine_of HC1.out
 go_wp2_with fail
 clear c0 c1 c2 c3 c4 c5 c6 c7 c8
 refine (CS.out _ T1.out).mono ?_
 rintro e x2 ⟨q0, a', LW, LO, LN, rfl, hlb⟩
 have LB := η hlb
 clear hlb CS
 have T2 := η LB.out.base
 have HE1 := η (T2.out.heap HC1.out)
 obtain ⟨c0, c1, c2, c3, c4, c5, c6, c7, c8⟩ := nine_of HE1.out
 have f0 : ∀ j, x2.frozen? ⟨b, j, none⟩ = false := fun j => unfrozen_of HE1.out
 have TN4 := η (nine_turn x2 b (.int .i64 s'.broker) (.int .i64 s'.nextId) (.int .i64 s'.nextSeq) (.int .i64 s'.tx) (.slice a'.m s'.ms.length a'.cm) (.slice a'.w s'.waits.length a'.cw) (.slice a'.e s'.ends.length a'.ce) (.slice a'.o s'.open_.length a'.co) (.slice a'.n s'.noes.length a'.cn))
 have HN1 := η (nine_heapC HE1.out (.int .i64 s'.broker) (.int .i64 s'.nextId) (.int .i64 s'.nextSeq) (.int .i64 s'.tx) (.slice a'.m s'.ms.length a'.cm) (.slice a'.w s'.waits.length a'.cw) (.slice a'.e s'.ends.length a'.ce) (.slice a'.o s'.open_.length a'.co) (.slice a'.n s'.noes.length a'.cn))
 go_upto_region 5 with fail
 clear c0 c1 c2 c3 c4 c5 c6 c7 c8 f0
 obtain ⟨z, hzz⟩ := ε ((((((((((x2.setCell ⟨b, 0, none⟩ (.int .i64 s'.broker)).setCell ⟨b, 1, none⟩ (.int .i64 s'.nextId)).setCell ⟨b, 2, none⟩ (.int .i64 s'.nextSeq)).setCell ⟨b, 3, none⟩ (.int .i64 s'.tx)).setCell ⟨b, 4, none⟩ (.slice a'.m s'.ms.length a'.cm)).setCell ⟨b, 5, none⟩ (.slice a'.w s'.waits.length a'.cw)).setCell ⟨b, 6, none⟩ (.slice a'.e s'.ends.length a'.ce)).setCell ⟨b, 7, none⟩ (.slice a'.o s'.open_.length a'.co)).setCell ⟨b, 8, none⟩ (.slice a'.n s'.noes.length a'.cn)))
 have T4 : Hid (Turn [b] x2 z) := by rw [hzz]; exact TN4
 have HG1 : Hid (z.heap[b]? = some (.cells #[.int .i64 s'.broker, .int .i64 s'.nextId, .int .i64 s'.nextSeq, .int .i64 s'.tx, .slice a'.m s'.ms.length a'.cm, .slice a'.w s'.waits.length a'.cw, .slice a'.e s'.ends.length a'.ce, .slice a'.o s'.open_.length a'.co, .slice a'.n s'.noes.length a'.cn] 27)) := by rw [hzz]; exact HN1
 rw [← hzz]
 clear hzz TN4 HN1
 have SZ : Hid (∀ wx, Turn [] z wx → StIs wx a' s') := η (fun wx tx => by
  refine LB.out.reads HD.out (l := [b]) (T4.out.trans (tx.mono (by simp)) (fun i hi => .inl hi)) (fun k hk => ?_)
  have h1 := (Array.getElem?_eq_some_iff.1 HC1.out).1
  have h2 := HBD.out
  simp only [List.mem_cons, List.not_mem_nil, or_false] at hk
  omega)
 have TZ : Hid (Turn [] w z) := η ((T1.out.trans T2.out).trans T4.out (fun i hi => .inr (by simp at hi; have := HBD.out; omega)))
 clear HE1 HC1 T4 LB T2 T1 HBD
 have KM := η (refMay_calls (SZ.out z (Turn.refl _ _)) HFT.out)
 have KL := η (fun wx (t : Turn [] z wx) hn => loose_calls (SZ.out wx t) HFT.out hn)
 have KH := η (fun wx (t : Turn [] z wx) hn y => holds_calls (SZ.out wx t) hn y)
 have KW := η (fun wx (t : Turn [] z wx) y => refAtWaits_calls y (SZ.out wx t))
 have KP := η (fun wx (t : Turn [] z wx) y => refAtPend_calls y (SZ.out wx t).open_)
 unfold StV.cells at KM KL KH KW
 obtain ⟨mb, hmb⟩ := ε (mayB s')
 rw [← hmb] at KM
 have HMB := η hmb
 clear hmb
 obtain ⟨c0, c1, c2, c3, c4, c5, c6, c7, c8⟩ := nine_of HG1.out
 go_wp2_with fail
 refine KM.out.mono ?_
 rintro e x5 ⟨rfl, t5⟩
 have V5 := η t5
 clear t5 KM c0 c1 c2 c3 c4 c5 c6 c7 c8
 cases mb with
 | false =>
  go_wp2_with fail
  go_ret
  exact ⟨rfl, (TZ.out.trans V5.out).belowAll⟩
 | true =>
  have HM := η (mayB_iff.1 HMB.out.symm)
  have hn72 := HM.out.lms
  have HONE := η (by_one HM.out)
  have KL1 := KL.out _ V5.out (Nat.le_trans hn72 (by omega))
  have KH := η (fun wx t y => KH.out wx t (Nat.le_trans hn72 (by omega)) y)
  obtain ⟨n, hn⟩ := ε s'.ms.length
  have HN := η hn
  have HCA := η (fun p => cn_all p s'.ms)
  rw [← hn] at hn72 HG1 KL1 KH KW HCA
  have KL1 := η KL1
  clear hn HMB KL
  obtain ⟨c0, c1, c2, c3, c4, c5, c6, c7, c8⟩ := nine_of (V5.out.heap HG1.out)
  go_wp2_with fail
  clear c0 c1 c2 c3 c4 c5 c6 c7 c8
  refine KL1.out.mono ?_
  rintro e x6 ⟨ao, cc, R, rfl, hnd, hR, hq, hrl, t6⟩
  have V6 := η (V5.out.trans t6)
  have HQ := η hq
  have HR := η hR
  have HSUM := η (sum_held hnd (loose_zero hR) s'.ms)
  obtain ⟨nr, hnr⟩ := ε R.length
  have HNR := η hnr
  rw [← hnr] at hrl ⊢
  clear t6 hq hR hnr hnd KL1 V5
  go_wp2_with fail
  go_loopw [6, 5] (fun vi vh wx => ∃ k : Nat, k ≤ n ∧ vi = .int .i64 (k : Int) ∧ vh = .int .i64 (cn pHd (s'.ms.take k) : Int) ∧ Turn [] x6 wx) (fun vi _ _ => n - (intOf vi).toNat)
  case atStart => exact ⟨0, by omega, rfl, rfl, Turn.refl _ _⟩
  case round =>
   obtain ⟨k, hk, rfl, rfl, ht⟩ := hrel
   have HT := η ht
   have VW := η (V6.out.trans ht)
   clear ht
   obtain ⟨c0, c1, c2, c3, c4, c5, c6, c7, c8⟩ := nine_of (VW.out.heap HG1.out)
   by_cases hkn : k < n
   · have hkl : k < s'.ms.length := by rw [← HN.out]; exact hkn
     obtain ⟨x, hx⟩ : ∃ x, s'.ms[k]? = some x := ⟨_, List.getElem?_eq_getElem hkl⟩
     obtain ⟨g, off, hae, hat⟩ := (SZ.out _ VW.out).ms.at hx
     have q5 := hat 5 (.int .i64 x.by_) rfl
     have he := cn_next (p := pHd) hx
     rw [show pHd x = !decide (x.by_ = 0) from rfl] at he
     have hle := cn_le pHd s'.ms k
     obtain ⟨ch, hch⟩ := ε (cn pHd (s'.ms.take k))
     rw [← hch] at he hle ⊢
     have HIN := η (fun h0 => loose_in HR.out (List.mem_of_getElem? hx) h0)
     have HPOS := η (by_some hx)
     obtain ⟨y, hy⟩ := ε x.by_
     rw [← hy] at q5 he HIN HPOS
     rw [show a'.m = _ from hae] at c4
     have hb3 : 0 ≤ (k : Int) ∧ (k : Int) < (n : Int) := by omega
     clear hat hae hx hkl hch hy
     by_cases hy0 : y = 0
     · subst hy0
       have F := η (show cn pHd (s'.ms.take (k + 1)) = ch by rw [he]; rfl)
       clear he HIN HPOS
       go_wp2_with fail
       go_roundw
       case rel => exact ⟨k + 1, by omega, by go_num, by rw [F.out], HT.out⟩
       case measure => simp [intOf]; omega
     · have hne : (y == 0) = false := by simpa using hy0
       have F := η (show cn pHd (s'.ms.take (k + 1)) = ch + 1 by rw [he, decide_eq_false hy0]; rfl)
       have HIN := η (HIN.out hy0)
       clear he hy0
       go_wp2_with fail
       clear c0 c1 c2 c3 c4 c5 c6 c7 c8 q5
       go_loopw [9, 8] (fun vj vb wx => ∃ j : Nat, j ≤ nr ∧ vj = .int .i64 (j : Int) ∧ vb = .bool (decide (y ∈ R.take j)) ∧ wx = wr) (fun vj _ _ => nr - (intOf vj).toNat)
       case atStart => exact ⟨0, by omega, rfl, by simp, rfl⟩
       case round =>
        obtain ⟨j, hj, rfl, rfl, rfl⟩ := hrel
        by_cases hjn : j < nr
        · have hjl : j < R.length := by rw [← HNR.out]; exact hjn
          obtain ⟨r, hr⟩ : ∃ r, R[j]? = some r := ⟨_, List.getElem?_eq_getElem hjl⟩
          obtain ⟨g2, hao, hcell⟩ := HQ.out j r hr
          replace hcell := HT.out.cell hcell
          have hnx : decide (y ∈ R.take (j + 1)) = (decide (y ∈ R.take j) || (r == y)) := by
           rw [List.take_add_one, hr, Bool.eq_iff_iff, decide_eq_true_eq, List.mem_append, Option.toList_some, List.mem_singleton, Bool.or_eq_true, decide_eq_true_eq, beq_iff_eq]
           exact or_congr Iff.rfl ⟨Eq.symm, Eq.symm⟩
          have HNX := η hnx
          rw [hao]
          have hb4 : 0 ≤ (j : Int) ∧ (j : Int) < (nr : Int) := by omega
          obtain ⟨bb, hbb⟩ := ε (decide (y ∈ R.take j))
          rw [← hbb] at HNX ⊢
          clear hr hjl hao hnx hbb
          cases bb with
          | true =>
           go_wp2_with fail
           go_roundw
           case rel => exact ⟨j + 1, by omega, by go_num, by rw [HNX.out]; rfl, by trivial⟩
           case measure => simp [intOf]; omega
          | false =>
           by_cases hry : r = y
           · have h1 : (r == y) = true := by simpa using hry
             have F2 := η (show decide (y ∈ R.take (j + 1)) = true by rw [HNX.out, h1]; rfl)
             subst hry
             go_wp2_with fail
             go_roundw
             case rel => exact ⟨j + 1, by omega, by go_num, by rw [F2.out], by trivial⟩
             case measure => simp [intOf]; omega
           · have h1 : (r == y) = false := by simpa using hry
             have F2 := η (show decide (y ∈ R.take (j + 1)) = false by rw [HNX.out, h1]; rfl)
             clear hry
             go_wp2_with fail
             go_roundw
             case rel => exact ⟨j + 1, by omega, by go_num, by rw [F2.out], by trivial⟩
             case measure => simp [intOf]; omega
        · have hjj : j = nr := by omega
          subst hjj
          have HTK : Hid (decide (y ∈ R.take j) = decide (y ∈ R)) := η (by rw [List.take_of_length_le (by rw [← HNR.out]; exact Nat.le_refl _)])
          rw [HTK.out]
          have hb4 : ¬ ((j : Int) < (j : Int)) := by omega
          obtain ⟨c0, c1, c2, c3, c4, c5, c6, c7, c8⟩ := nine_of (VW.out.heap HG1.out)
          have KW1 := KW.out _ VW.out y
          have KP1 := fun wx (t : Turn [] z wx) => KP.out wx t y
          have KH1 := η (fun wx (t : Turn [] z wx) => KH.out wx t y)
          have e1 : decide (0 ≤ placeI (fun x => decide (BrV.tid x = y)) s'.waits) = keyB BrV.tid s'.waits y := place_key3 BrV.tid s'.waits y
          have e2 : decide (0 ≤ placeI (fun x => decide (PendV.tid x = y)) s'.open_) = keyB PendV.tid s'.open_ y := place_key3 PendV.tid s'.open_ y
          have hin := HIN.out
          rw [← e1, ← e2] at hin
          obtain ⟨p1, hp1⟩ := ε (placeI (fun x => decide (BrV.tid x = y)) s'.waits)
          obtain ⟨p2, hp2⟩ := ε (placeI (fun x => decide (PendV.tid x = y)) s'.open_)
          rw [← hp1] at KW1 hin
          rw [← hp2] at hin
          have KP1 : ∀ wx, Turn [] z wx → _ := fun wx t => by
           have := KP1 wx t
           rw [← hp2] at this
           exact this
          have KW1 := η KW1
          have KP1 := η KP1
          have hpos := HPOS.out
          obtain ⟨cy, hcy⟩ := ε (cn (pBy y) s'.ms)
          rw [← hcy] at KH1 hpos
          have hcz : ((cy : Int) == 0) = false := by simp; omega
          obtain ⟨bR, hbR⟩ := ε (decide (y ∈ R))
          rw [← hbR] at hin ⊢
          have HINR := η hin
          clear hbR hp1 hp2 e1 e2 hin hcy hpos HTK
          go_wp2_with fail
          refine KW1.out.mono ?_
          rintro e y1 ⟨rfl, t9⟩
          have V9 := η (VW.out.trans t9)
          have U9 := η (HT.out.trans t9)
          clear t9 c0 c1 c2 c3 c4 c5 c6 c7 c8 KW1
          obtain ⟨c0, c1, c2, c3, c4, c5, c6, c7, c8⟩ := nine_of (V9.out.heap HG1.out)
          by_cases h1 : 0 ≤ p1
          · have h1' : decide (p1 ≥ 0) = true := decide_eq_true h1
            obtain rfl : bR = false := by rw [HINR.out, decide_eq_true h1]; rfl
            go_wp2_with fail
            clear c0 c1 c2 c3 c4 c5 c6 c7 c8
            refine (KH1.out _ V9.out).mono ?_
            rintro e y3 ⟨a2, c2, rfl, t3⟩
            have U3 := η (U9.out.trans t3)
            clear t3
            go_wp2_with fail
            go_roundw
            case rel => exact ⟨k + 1, by omega, by go_num, by rw [F.out]; go_num, U3.out⟩
            case measure => simp [intOf]; omega
          · have h1' : decide (p1 ≥ 0) = false := decide_eq_false h1
            have HINR := η (show bR = !decide (0 ≤ p2) by rw [HINR.out, decide_eq_false h1]; rfl)
            go_wp2_with fail
            refine (KP1.out _ V9.out).mono ?_
            rintro e y2 ⟨rfl, rfl⟩
            by_cases h2 : 0 ≤ p2
            · have h2' : decide (p2 ≥ 0) = true := decide_eq_true h2
              obtain rfl : bR = false := by rw [HINR.out, decide_eq_true h2]; rfl
              go_wp2_with fail
              clear c0 c1 c2 c3 c4 c5 c6 c7 c8
              refine (KH1.out _ V9.out).mono ?_
              rintro e y3 ⟨a2, c2, rfl, t3⟩
              have U3 := η (U9.out.trans t3)
              clear t3
              go_wp2_with fail
              go_roundw
              case rel => exact ⟨k + 1, by omega, by go_num, by rw [F.out]; go_num, U3.out⟩
              case measure => simp [intOf]; omega
            · have h2' : decide (p2 ≥ 0) = false := decide_eq_false h2
              obtain rfl : bR = true := by rw [HINR.out, decide_eq_false h2]; rfl
              go_wp2_with fail
              clear c0 c1 c2 c3 c4 c5 c6 c7 c8
              refine (KH1.out _ V9.out).mono ?_
              rintro e y3 ⟨a2, c2, rfl, t3⟩
              have U3 := η (U9.out.trans t3)
              clear t3
              go_wp2_with fail
              go_roundw
              case rel => exact ⟨k + 1, by omega, by go_num, by rw [F.out]; go_num, U3.out⟩
              case measure => simp [intOf]; omega
   · have hkk : k = n := by omega
     subst hkk
     have HTK : Hid (cn pHd (s'.ms.take k) = cn pHd s'.ms) := η (by rw [List.take_of_length_le (by rw [← HN.out]; exact Nat.le_refl _)])
     rw [HTK.out]
     have hb2 : ¬ ((k : Int) < (k : Int)) := by omega
     have hhn := HCA.out pHd
     obtain ⟨ch, hch⟩ := ε (cn pHd s'.ms)
     rw [← hch] at HSUM hhn ⊢
     clear hch
     go_wp2_with fail
     go_loopw [11, 10] (fun vj vs wx => ∃ j : Nat, j ≤ nr ∧ vj = .int .i64 (j : Int) ∧ vs = .int .i64 ((((R.take j).map fun t => cn (pBy t) s'.ms).sum : Nat) : Int) ∧ Turn [] x6 wx) (fun vj _ _ => nr - (intOf vj).toNat)
     case atStart => exact ⟨0, by omega, rfl, rfl, HT.out⟩
     case round =>
      obtain ⟨j, hj, rfl, rfl, ht2⟩ := hrel
      have HT2 := η ht2
      have VX := η (V6.out.trans ht2)
      clear ht2 c0 c1 c2 c3 c4 c5 c6 c7 c8
      obtain ⟨c0, c1, c2, c3, c4, c5, c6, c7, c8⟩ := nine_of (VX.out.heap HG1.out)
      by_cases hjn : j < nr
      · have hjl : j < R.length := by rw [← HNR.out]; exact hjn
        obtain ⟨r, hr⟩ : ∃ r, R[j]? = some r := ⟨_, List.getElem?_eq_getElem hjl⟩
        obtain ⟨g2, hao, hcell⟩ := HQ.out j r hr
        replace hcell := HT2.out.cell hcell
        have hsn := sums_next (f := fun t => cn (pBy t) s'.ms) hr
        have hsl := sums_le (fun t => cn (pBy t) s'.ms) R (j + 1)
        have hsm := HSUM.out
        rw [hsn] at hsl
        obtain ⟨sm, hsme⟩ := ε (((R.take j).map fun t => cn (pBy t) s'.ms).sum)
        rw [← hsme] at hsn hsl ⊢
        have KH1 := fun wx (t : Turn [] z wx) => KH.out wx t r
        obtain ⟨cr, hcr⟩ := ε (cn (pBy r) s'.ms)
        rw [← hcr] at KH1 hsn hsl
        have hbd : sm + cr ≤ k := by omega
        have HSN := η hsn
        have KH1 := η KH1
        rw [hao]
        have hb4 : 0 ≤ (j : Int) ∧ (j : Int) < (nr : Int) := by omega
        clear hr hjl hao hsn hsl hsm hsme hcr
        have hSX := η (fun (y : World) (ty : Turn [] wr y) => show y.cell? ⟨b, 0, none⟩ = some (.int .i64 s'.broker) ∧ y.cell? ⟨b, 1, none⟩ = some (.int .i64 s'.nextId) ∧ y.cell? ⟨b, 2, none⟩ = some (.int .i64 s'.nextSeq) ∧ y.cell? ⟨b, 3, none⟩ = some (.int .i64 s'.tx) ∧ y.cell? ⟨b, 4, none⟩ = some (.slice a'.m k a'.cm) ∧ y.cell? ⟨b, 5, none⟩ = some (.slice a'.w s'.waits.length a'.cw) ∧ y.cell? ⟨b, 6, none⟩ = some (.slice a'.e s'.ends.length a'.ce) ∧ y.cell? ⟨b, 7, none⟩ = some (.slice a'.o s'.open_.length a'.co) ∧ y.cell? ⟨b, 8, none⟩ = some (.slice a'.n s'.noes.length a'.cn) ∧ y.cell? ⟨g2, j, none⟩ = some (.int .i64 r) from by
         obtain ⟨c0, c1, c2, c3, c4, c5, c6, c7, c8⟩ := nine_of ((VX.out.trans ty).heap HG1.out)
         exact ⟨c0, c1, c2, c3, c4, c5, c6, c7, c8, ty.cell hcell⟩)
        have w1 : IntKind.i64.wrap ((sm : Int) + (cr : Int)) = (sm : Int) + (cr : Int) := by rw [IntKind.wrap_i64]; omega
        go_upto_region 26 with fail
        have TD := η (Turn.drew [] wr)
        refine Pq.start [] (fun y => y.cell? ⟨b, 0, none⟩ = some (.int .i64 s'.broker) ∧ y.cell? ⟨b, 1, none⟩ = some (.int .i64 s'.nextId) ∧ y.cell? ⟨b, 2, none⟩ = some (.int .i64 s'.nextSeq) ∧ y.cell? ⟨b, 3, none⟩ = some (.int .i64 s'.tx) ∧ y.cell? ⟨b, 4, none⟩ = some (.slice a'.m k a'.cm) ∧ y.cell? ⟨b, 5, none⟩ = some (.slice a'.w s'.waits.length a'.cw) ∧ y.cell? ⟨b, 6, none⟩ = some (.slice a'.e s'.ends.length a'.ce) ∧ y.cell? ⟨b, 7, none⟩ = some (.slice a'.o s'.open_.length a'.co) ∧ y.cell? ⟨b, 8, none⟩ = some (.slice a'.n s'.noes.length a'.cn) ∧ y.cell? ⟨g2, j, none⟩ = some (.int .i64 r)) (fun _ => True) (by kernel_rfl) ?_
        have hS := hSX.out _ TD.out
        clear c0 c1 c2 c3 c4 c5 c6 c7 c8 hcell
        refine Pq.tq 0 (some 80) hS ?_
        simp only [Act.put, σa, σz, σs]
        refine Pq.tq 1 (some 81) hS ?_
        simp only [Act.put, σa, σz, σs]
        refine Pq.tq 2 (some 82) hS ?_
        simp only [Act.put, σa, σz, σs]
        refine Pq.tq 3 (some 83) hS ?_
        simp only [Act.put, σa, σz, σs]
        refine Pq.tq 4 (some 84) hS ?_
        simp only [Act.put, σa, σz, σs]
        refine Pq.tq 5 (some 85) hS ?_
        simp only [Act.put, σa, σz, σs]
        refine Pq.one (i := 6) (by kernel_rfl) rfl ?_
        intro K hK
        rw [if_pos (by rfl)]
        go_simp
        refine (KH1.out _ (VX.out.trans TD.out)).mono ?_
        rintro e y1 ⟨a2, c2, rfl, t7⟩
        have T7 := η (TD.out.trans t7)
        have hS2 := hSX.out _ T7.out
        refine hK _ _ hS2 (.inr id) ?_
        clear hK K t7 hS
        refine Pq.tq 7 (some 87) hS2 ?_
        simp only [Act.put, σa, σz, σs]
        refine Pq.tq 8 (some 88) hS2 ?_
        simp only [Act.put, σa, σz, σs]
        refine Pq.tq 9 (some 10) hS2 ?_
        simp only [Act.put, σa, σz, σs]
        refine Pq.done (by kernel_rfl) ?_ _
        clear hS2
        go_wp2_with fail
        go_roundw
        case rel => exact ⟨j + 1, by omega, by go_num, by rw [HSN.out]; go_num, HT2.out.trans T7.out⟩
        case measure => simp [intOf]; omega
      · have hjj : j = nr := by omega
        subst hjj
        have HTK2 : Hid (((R.take j).map fun t => cn (pBy t) s'.ms).sum = (R.map fun t => cn (pBy t) s'.ms).sum) := η (by rw [List.take_of_length_le (by rw [← HNR.out]; exact Nat.le_refl _)])
        rw [HTK2.out]
        have hb4 : ¬ ((j : Int) < (j : Int)) := by omega
        have hsm := HSUM.out
        obtain ⟨sm, hsme⟩ := ε ((R.map fun t => cn (pBy t) s'.ms).sum)
        rw [← hsme] at hsm ⊢
        have KH1 := KH.out _ VX.out 1
        rw [HONE.out] at KH1
        have KH1 := η KH1
        have hcmp : ((sm : Int) ≤ (ch : Int)) := by omega
        clear hsme
        go_wp2_with fail
        clear c0 c1 c2 c3 c4 c5 c6 c7 c8
        refine KH1.out.mono ?_
        rintro e y1 ⟨a2, c2, rfl, t7⟩
        have T7 := η (VX.out.trans t7)
        clear t7
        go_wp2_with fail
        go_ret
        exact ⟨rfl, (TZ.out.trans T7.out).belowAll⟩
end Go.Proofs.YtlmefpanoimkcaaGreat
set_option maxRecDepth 100000
namespace Go.Proofs.YtlmefpanoimkcaaGreat.orderHolds
open Go.ChangeShapes Go.WideShapes Go.ChangeAt Go.RowKit
open Go.ChangeMaps (open_string shut_string)
set_option linter.unusedVariables false
theorem own : ownKnob Tryz.prog.godebug = none := by kernel_rfl
theorem laidOut : laidOutB Tryz.prog = true := closed.p_laidOutB
theorem lifted (os : Os) (started : os.Started) (H : Type) (enc : TypeId × Value → H) :
 ReturnsInHanded {} Tryz.checked os 15 .any (Rows.orderHoldsSpec.pre6 enc Tryz.prog Tryz.f15 Rows.orderHoldsRow.domain false) (Rows.orderHoldsSpec.post enc Tryz.prog Tryz.f15 false true false false) := by
 refine returnsInHanded_of_change_sized (C := Tryz.checked) own started (by kernel_rfl) Tryz.func15
  (ChangeSpec.witness6 (enc := enc) (C := Tryz.checked) false ⟨#[], #[.agg #[.int .i64 0, .int .i64 0, .int .i64 0, .int .i64 0, .slice none 0 0, .slice none 0 0, .slice none 0 0, .slice none 0 0, .slice none 0 0]], []⟩ 8 (by kernel_rfl) (by kernel_rfl) (by kernel_rfl) (by kernel_rfl)) ?_
 intro W base args ds gs before hval0 hW hcnd hsz0 _
 have hsz : (DataW.weightsEach Tryz.prog (Tryz.f15.params.toList ++ Rows.orderHoldsSpec.plain.varTypes Tryz.prog) (ds ++ gs)).all (· ≤ reachBytes) = true := hsz0
 have hval : ∀ (j : Nat) t v, Tryz.f15.params[j]? = some t → args[j]? = some v → Value.okWide Tryz.prog W .any base t v := hval0
 have hW' := hW
 obtain ⟨p, q, hA0, hV, rfl, hfz, hnd⟩ := hW
 have hA : DataW.TrodAll enc Tryz.prog W 0 (fun _ => true) true Tryz.f15.params.toList args.toList ds p := hA0
 rw [Tryz.params15] at hA hval hsz
 obtain ⟨v0, vs0, d0, ds0, p0, q0, hargs, rfl, rfl, h0, r0⟩ := trodAll_cons hA
 obtain ⟨rfl, rfl, rfl⟩ := trodAll_nil r0
 obtain rfl : args = #[v0] := by cases args; simp_all
 obtain ⟨rfl, rfl⟩ := trodVars_none hV
 have k0 := h0
 have lt0 : ∀ x ∈ p0, x.block < W.heap.size := by obtain ⟨m, hm⟩ := k0; exact DataW.trod_lt m _ _ _ hm
 obtain ⟨a0, b0, rfl, wx0, wf0, wb0⟩ := open_state (hval 0 27 v0 rfl rfl) h0
 have wz0 := wb0 reachBytes (fun k hk => of_decide_eq_true (List.all_eq_true.1 hsz k (DataW.weights_mem_each (j := 0) (t := 27) (d := d0) rfl rfl k hk)))
 rw [show reachBytes = 140737488351232 from rfl] at wz0
 clear hA0 hval0
 refine (orderHolds_walk (w := W) a0 b0 wx0 wf0 ⟨by omega, by omega, by omega, by omega, by omega⟩).mono fun e W' ⟨he, bel⟩ => ?_
 subst he
 exact ⟨_, rfl, _, _, _, [], _, [], hW', trodAll_mk1 (shut_bool Tryz.underlying4 _), (trodAll_cons_mk (Below.trod laidOut (by kernel_rfl) (of_decide_eq_true (by kernel_rfl)) k0 bel lt0) trodAll_mk0), rfl, bel.frame _, fun h => by cases h⟩
theorem closedAll : joinedFacts Tryz.prog 15 Tryz.f15 Rows.orderHoldsSpec Rows.orderHoldsRow = true :=
 joinMk.joined_mk (by kernel_rfl) closed.p_laidOutB closed.p_mapsRowed (by kernel_rfl) (by kernel_rfl) (by kernel_rfl) closed.p_stops (by kernel_rfl) closed.p_stopKnobs (by kernel_rfl) (by kernel_rfl) (by kernel_rfl) (by kernel_rfl) (by kernel_rfl) (by kernel_rfl) (by kernel_rfl) (by kernel_rfl) (by kernel_rfl) (by kernel_rfl) (by kernel_rfl) (by kernel_rfl) (by kernel_rfl) (by show (_ == _) = true; rw [closed.plainKeys_is]; kernel_rfl) (by kernel_rfl) closed.p_stopsHeard closed.p_mayEnter (by show (_ == _) = true; rw [closed.lifted_is]; kernel_rfl) (by show (_ == _) = true; rw [closed.make_is]; kernel_rfl) (by kernel_rfl) (by kernel_rfl) (by kernel_rfl) (by kernel_rfl)
theorem over : Rows.orderHoldsRow.holds Tryz.pinned (OpenSpec.ofChange Rows.orderHoldsSpec) :=
 OpenClaim.holds_of_wide 15 Tryz.f15 rfl rfl rfl rfl rfl rfl rfl ⟨rfl, rfl, rfl, rfl, rfl⟩ rfl rfl rfl rfl rfl (by kernel_rfl) Tryz.func15 closedAll
  (of_decide_eq_true (by kernel_rfl)) (by unfold Func.isWrapper; first | (rw [if_pos (by decide +kernel)]; kernel_rfl) | (rw [if_neg (by decide +kernel)]; exact ⟨rfl, rfl⟩))
  (fun os started H enc _ => lifted os started H enc)
theorem proved : Rows.OrderHoldsSaid := over
end Go.Proofs.YtlmefpanoimkcaaGreat.orderHolds
