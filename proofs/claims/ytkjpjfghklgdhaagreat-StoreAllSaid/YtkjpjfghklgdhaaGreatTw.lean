/-
  Tw
-/
import Derived.Test.YtkjpjfghklgdhaaGreatPkAA
namespace Go.Proofs.YtkjpjfghklgdhaaGreat
open Go Go.RowKit
structure Tw (y:World) where
 x:World
 t:Turn [] y x
instance (y:World):Inhabited (Tw y):=⟨⟨y,Turn.refl [] y⟩⟩
theorem Tw.cell {y:World} (p:Tw y) {a:Addr} {v:Value} (h:y.cell? a=some v):p.x.cell? a=some v:=p.t.cell h
theorem quiet_turn {P:Program} {id:Nat} {Q:Exit→Act→World→Prop} {a:Act} {w:World} {l:List Oper} (hm:P.follows .mixedOrders=true) (hB:Region.lexB .any l.toArray=true)
 (h:wpQuiet P l.toArray (fun w'=>∃p:Tw w,w'=p.x) (fun a'=>∀w',(∃p:Tw w,w'=p.x)→Q .normal a' w') l a):(Code.region id l.toArray true).wp P Q a w:=
 wp_region_quiet (C:=fun w'=>∃p:Tw w,w'=p.x) hm hB ⟨⟨w.drew,Turn.drew [] w⟩,rfl⟩ (by simpa using h)
theorem quiet_lex {P:Program} {id:Nat} {Q:Exit→Act→World→Prop} {a:Act} {w:World} {l:List Oper} (hB:Region.lexB .any l.toArray=true) (h:Hid (Region.lexB .any l.toArray=true)→(Code.region id l.toArray true).wp P Q a w):(Code.region id l.toArray true).wp P Q a w:=h (η hB)
theorem Tw.call {P:Program} {y:World} {f:FuncId} {args:Array Value} {v:Value} (h:∀x,Turn [] y x→Calls P f args x fun e w'=>e=.returned v∧Turn [] x w') (p:Tw y):Calls P f args p.x fun e w'=>e=.returned v∧∃q:Tw y,w'=q.x:=
 (h p.x p.t).mono fun _ _ h=>⟨h.1,⟨_,p.t.trans h.2⟩,rfl⟩
theorem Tw.same {P:Program} {y:World} {f:FuncId} {args:Array Value} {v:Value} (h:∀x,Calls P f args x fun e w'=>e=.returned v∧x=w') (p:Tw y):Calls P f args p.x fun e w'=>e=.returned v∧∃q:Tw y,w'=q.x:=
 (h p.x).mono fun _ _ h=>⟨h.1,p,h.2.symm⟩
end Go.Proofs.YtkjpjfghklgdhaaGreat
