/- A part. -/
import Derived.Test.YtbohmhacdgckgaaGreatDoorQOpenTexts
set_option linter.all false
namespace Go.Proofs.YtbohmhacdgckgaaGreatDoor.consoleSays
open Go renaming World->ω, Value->υ
open Option renaming some->S, none->O
open Go.Proofs.Tryz
open Go.ChangeShapes Go.WideShapes Go.ChangeAt Go.WideMaps Go.WideElems Go.RowKit
def QO{H enc a C os f c s o apart fresh m n}{X:ω->Array υ->Prop}
  (u:∀w w' b,w.heap=w'.heap->X w b->X w' b)
  (own:ownKnob C.prog.godebug=O) (started:os.Started) (B:C.prog.inits.idxOf? f=O) (L:C.prog.funcs[f]?=S c)
  (M:∃(w:ω) (d:Tape) (i:Input),w.os=os/\(w.forCall d i).Shaped C.prog/\i.vars=[]/\Input.okWide C.prog (w.forCall d i) .any w f i /\
    ((s.pre enc C.prog c o apart (w.forCall d i).memory i.args/\X (w.forCall d i).memory i.args)/\sizedMet enc C.prog c (OpenSpec.ofChange s) apart (w.forCall d i).memory i.args)/\a.holds C.prog (lone (Frame.enter C.prog f i.args .normal) [] (w.forCall d i)))
  (E:∀(W:ω) (base:Nat) (b:Array υ) (k g:List (DataW H)) (l:List MemPlace),
    (∀(j:Nat) t v,c.params[j]?=S t->b[j]?=S v->Value.okWide C.prog W .any base t v) ->
    DataW.Whole enc C.prog c.params.toList s.vars apart W b.toList k g l->X W b->W.ShapedOpen C.prog ->
    Calls C.prog f b W λe q=>∃ v,e=.returned v/\s.post enc C.prog c apart fresh m n W b v q) :
  ReturnsInHanded a C os f .any (λw b=>(s.pre enc C.prog c o apart w b/\X w b)/\sizedMet enc C.prog c (OpenSpec.ofChange s) apart w b) (s.post enc C.prog c apart fresh m n):=by
 refine returnsInHanded_of_calls own started B M ?_;intro w d i _ I _ G D Q;obtain⟨_,_,_,K,y,_,_,_,_,x⟩:=G;have e:K=c:=jaQ (y.symm.trans L);subst e;obtain⟨⟨⟨k,g,l,z,N⟩,F⟩,P⟩:=D;have r:=DataW.Whole.of_heap (w':=w.forCall d i) (by rfl) z;refine(E (w.forCall d i) w.heap.size i.args k g l x r (u _ _ _ (by rfl) F) I).mono λe q ⟨v,J,A⟩=>?_
 subst J;exact ChangeSpec.post_blind A
def star : "*" ++ "errors.errorString" = "*errors.errorString" := by decide
def eH(u)(h:prog.typeName? 3 u=S "*errors.errorString"):u=362 :=
 typeName_ptr_named (nm := "errors.errorString") (by rw[star];kernel_rfl) (by kernel_rfl) (by decide) u (by rw[star];exact h)
def cellsE:prog.cellsOf 364=1:=by kernel_rfl
def cellsS:prog.cellsOf 9=1:=by kernel_rfl
def maxOf(W:ω)(h:W.ShapedOpen prog):∃ m,W.cell? ⟨2,0,O⟩=S (.int .i64 m) :=
 cell_of_shapedOpen_int (t:=3) (zero := #[(0:Int)]) h (of_decide_eq_true (by kernel_rfl)) (by kernel_rfl) rfl (by kernel_rfl) (by kernel_rfl) underlying3
def sizeOf(W:ω)(h:W.ShapedOpen prog):8<=W.heap.size:=by
 have f:7<prog.globals.size:=of_decide_eq_true (by kernel_rfl);have d:(((begin prog (λ_ _=>0) default).world.heap[7]?).bind Obj.row?).isSome=true:=by kernel_rfl
 cases c:((begin prog (λ_ _=>0) default).world.heap[7]?).bind Obj.row? with
 | none=>rw[c] at d;cases d
 | some a =>
  obtain⟨g,b,_⟩:=h.1 7 a.1 a.2 f c;exact Nat.lt_of_not_le λq=>by rw[Array.getElem?_eq_none q] at b;cases b
def varsOf(W)(a:laidMetH prog Rows.consoleSaysRow.laid W)(h:W.ShapedOpen prog):Vars W:=by
 rw[MakeChecks.laidMetH_plain _ _ _ (by kernel_rfl)] at a;have c:Rows.consoleSaysRow.laid=Rows.consoleSaysRow.laid.head (by decide)::("math/bits.deBruijn64tab",Lib.tabData .u8 (Lib.deBruijn64tab.map λz:Nat=>(z:Int)))::("internal/strconv.uint64pow10",Lib.tabData .u64 Lib.pow10Tab)::("unicode/utf8.acceptRanges",Rows.laid_unicode_utf8_acceptRanges)::("strconv.ErrRange",.iface "*errors.errorString" (.ptr (.agg [.lit (.string [118,97,108,117,101,32,111,117,116,32,111,102,32,114,97,110,103,101])])))::("strconv.ErrSyntax",.iface "*errors.errorString" (.ptr (.agg [.lit (.string [105,110,118,97,108,105,100,32,115,121,110,116,97,120])])))::[("unicode/utf8.first",Rows.laid_unicode_utf8_first)]:=by kernel_rfl
 rw[c] at a
 have f:Lib.TabIs prog W "math/bits.deBruijn64tab" .u8 (Lib.deBruijn64tab.map λz:Nat=>(z:Int)) :=
  Lib.tabIs_of_head (g:=0) (t:=321) (e:=5) (n:=64) (by kernel_rfl) (by kernel_rfl) underlying321 underlying5 (by kernel_rfl) (by kernel_rfl) a.tail
 have d:Lib.TabIs prog W "internal/strconv.uint64pow10" .u64 Lib.pow10Tab :=
  Lib.tabIs_of_head (g:=1) (t:=339) (e:=283) (n:=20) (by kernel_rfl) (by kernel_rfl) underlying339 underlying283 (by kernel_rfl) (by kernel_rfl) a.tail.tail
 obtain⟨m,_,i,_⟩:=laid_sentinel a.tail.tail.tail.tail (g:=4) (ti:=27) (by kernel_rfl) (by kernel_rfl) underlying27 eH underlying362 underlying364 rfl rfl underlying9 cellsE cellsS;obtain⟨o,_,k,_⟩:=laid_sentinel a.tail.tail.tail.tail.tail (g:=3) (ti:=27) (by kernel_rfl) (by kernel_rfl) underlying27 eH underlying362 underlying364 rfl rfl underlying9 cellsE cellsS;refine⟨sizeOf W h,⟨_,_,k⟩,⟨_,_,i⟩,d,maxOf W h,λj b=>?_⟩;have l:=f.cell (g:=0) (by kernel_rfl) j (by rw[jaX];exact b);rw[l];simp[List.getD,show j<Lib.deBruijn64tab.length from b]
