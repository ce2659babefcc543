/-
  LsA
-/
import Derived.Test.YtlmefpanoimkcaaGreatLs0
namespace Go.Proofs.YtlmefpanoimkcaaGreat
open Go.RowKit Go.Proofs.YtlmefpanoimkcaaGreat.V
theorem step_append_sr {ops : Array Oper} {o : Oper} {a : Act} {w : World} {K : Act → World → Prop} {Q : Exit → Act → World → Prop} {E : Prop} (hgd : o.guard = none) (s x : Operand)
 (ho : o.op = .call { callee := .builtin .append, args := #[s, x], argTypes := #[34, 34] }) (hs : a.eval s = .slice none 0 0)
 (ao : Option Addr) (n2 c : Nat) (l2 : List Int) (hn2 : n2 = l2.length) (hx : a.eval x = .slice ao n2 c) (hsl : Sr w ao c l2) (hlen : l2.length ≤ 1000000)
 (h : ∀ v' w', w'.ownsRow w.heap.size 3 1 v' l2.length (i64s l2) → Turn [] w w' → K (a.put o.dst v') w') :
 if Region.wanted o (yielded ops a.tmps) = true then Oper.wp Tryz.prog o a w K Q else E := by
 have hw : Region.wanted o (yielded ops a.tmps) = true := by simp [Region.wanted, hgd]
 rw [if_pos hw]
 obtain ⟨i0, hi, hz0, hz1, hz2⟩ := info_parts Tryz.introw
 subst hn2
 rcases hsl with ⟨rfl, rfl, rfl⟩ | ⟨A, rfl, hc⟩
 · have hrun := run_append_owned_none (P := Tryz.prog) (w := w) w.heap.size 34 o.type 3 i0 1 Tryz.underlying34 hi (.slice none 0 0) 0 [] (World.ownsRow_nil _ _ _ _)
   unfold Oper.wp
   simp [execOp, ho, resolve, invoke, builtin, hs, hx, hrun, Result.andThen]
   exact h _ w (World.ownsRow_nil _ _ _ _) (Turn.refl _ _)
 · obtain ⟨v', w', hr, h2, h3, h4, h5⟩ := run_append_own_at (P := Tryz.prog) w w.heap.size 34 o.type 3 i0 _ 1 8 Tryz.underlying34 hi hz0 hz1 hz2 rfl (by decide) (.slice none 0 0) 0 [] (World.ownsRow_nil _ _ _ _) A l2.length c (i64s l2) (by rw [i64s_length]; omega)
    (Sr.cells hc) (i64s_one l2) (by unfold maxLen; omega) (by omega) (Nat.le_refl _)
   unfold Oper.wp execOp
   simp only [ho, resolve, invoke, builtin, Sem.run_bind, Sem.run_pure, Result.andThen_ok, List.map_toArray, List.map_cons, List.map_nil, hs, hx, hr]
   exact h v' w' (by simpa using h2) (Turn.grown (l := []) h3 (fun k hk => by simp [Value.ownBlock] at hk))
theorem lb_new {wi w x : World} (el : Turn [] wi w) {q : Nat} {s : StV} {a' : Ads} {LW : List (Lay BrV)} {LO LN : List (Lay PendV)} (t : Turn [] w x) (hq : w.heap.size ≤ q) {c0 c1 c2 c3 c4 c5 c6 c7 c8 : Value} (hh : x.heap[q]? = some (.cells #[c0, c1, c2, c3, c4, c5, c6, c7, c8] 27))
 (vw : LW.map Lay.v = s.waits) (vo : LO.map Lay.v = s.open_) (vn : LN.map Lay.v = s.noes) (hp : ∀ y ∈ LW, Ps wi y.ao y.c y.v.puts) (hi : ∀ y ∈ LO ++ LN, Il wi y.ao y.c y.v.parts) {B : Nat} (hB : w.heap.size ≤ B)
 (r1 : x.ownsRow B 49 6 (.slice a'.m s.ms.length a'.cm) s.ms.length (s.ms.flatMap msgC)) (r2 : x.ownsRow B 81 2 (.slice a'.w s.waits.length a'.cw) s.waits.length (LW.flatMap brC))
 (r3 : x.ownsRow B 61 2 (.slice a'.e s.ends.length a'.ce) s.ends.length (s.ends.flatMap endC)) (r4 : x.ownsRow B 65 2 (.slice a'.o s.open_.length a'.co) s.open_.length (LO.flatMap pendC))
 (r5 : x.ownsRow B 65 2 (.slice a'.n s.noes.length a'.cn) s.noes.length (LN.flatMap pendC)) (ap : Apart (.slice a'.o s.open_.length a'.co) (.slice a'.n s.noes.length a'.cn)) :
 Lb wi w (nine x q (.int .i64 s.broker) (.int .i64 s.nextId) (.int .i64 s.nextSeq) (.int .i64 s.tx) (.slice a'.m s.ms.length a'.cm) (.slice a'.w s.waits.length a'.cw) (.slice a'.e s.ends.length a'.ce) (.slice a'.o s.open_.length a'.co) (.slice a'.n s.noes.length a'.cn)) q s a' LW LO LN := by
 have T := nine_turn x q (.int .i64 s.broker) (.int .i64 s.nextId) (.int .i64 s.nextSeq) (.int .i64 s.tx) (.slice a'.m s.ms.length a'.cm) (.slice a'.w s.waits.length a'.cw) (.slice a'.e s.ends.length a'.ce) (.slice a'.o s.open_.length a'.co) (.slice a'.n s.noes.length a'.cn)
 have ht := lb_typed hh
 have rb : ∀ {E : TypeId} {n m : Nat} {v : Value} {xs : List Value}, x.ownsRow B E n v m xs → E ≠ 27 → (nine x q (.int .i64 s.broker) (.int .i64 s.nextId) (.int .i64 s.nextSeq) (.int .i64 s.tx) (.slice a'.m s.ms.length a'.cm) (.slice a'.w s.waits.length a'.cw) (.slice a'.e s.ends.length a'.ce) (.slice a'.o s.open_.length a'.co) (.slice a'.n s.noes.length a'.cn)).ownsRow w.heap.size E n v m xs := fun h hne => ownsRow_base (ownsRow_keep h T ht hne) (fun k hk => by have := ownsRow_lo h hk; omega)
 have e1 : LW.length = s.waits.length := by rw [← vw, List.length_map]
 have e2 : LO.length = s.open_.length := by rw [← vo, List.length_map]
 have e3 : LN.length = s.noes.length := by rw [← vn, List.length_map]
 refine ⟨el, lb_base t T hq, hq, nine_heapC hh _ _ _ _ _ _ _ _ _, vw, vo, vn, rb r1 (by decide), ?_, rb r3 (by decide), ?_, ?_, ?_, fun y hy => .inl (hp y hy), fun y hy => .inl (hi y hy)⟩
 · rw [e1]; exact rb r2 (by decide)
 · rw [e2]; exact rb r4 (by decide)
 · rw [e3]; exact rb r5 (by decide)
 · rcases ap with h | h
   · cases ho : a'.o with
     | none => exact .inl rfl
     | some A => rw [ho] at h; simp [Value.ownBlock] at h
   · cases ho : a'.o with
     | none => exact .inl rfl
     | some A =>
      refine .inr (fun e => h ?_)
      rw [ho, ← e]
      rfl
end Go.Proofs.YtlmefpanoimkcaaGreat
