/- YardSays: its row (the card: the text behind it; together they take more than 10 GB). -/
import Derived.Test.YtbohmhacdgckgaaGreatDoorTie
import Derived.Test.YtbohmhacdgckgaaGreatDoorCards
import Derived.Test.YtbohmhacdgckgaaGreatDoorQYardSays1
import Derived.Test.YtbohmhacdgckgaaGreatDoorQYardSaysF
import Derived.LaidMore
import Derived.MakeChecks
import Derived.Lay
import Derived.Lib.LaidTab
set_option linter.all false
set_option maxRecDepth 100000
namespace Go.Proofs.YtbohmhacdgckgaaGreatDoor.yardSays
open Go.Proofs.Tryz
open Go.ChangeShapes Go.WideShapes Go.ChangeAt Go.WideMaps Go.WideElems Go.RowKit
def Uy(W:World)(a:laidMetH prog Rows.yardSaysRow.laid W):S4.Tab W:=by
 rw[MakeChecks.laidMetH_plain _ _ _ (by kernel_rfl)] at a
 have e:Rows.yardSaysRow.laid=("math/bits.deBruijn64tab",Lib.tabData .u8 (Lib.deBruijn64tab.map λz:Nat=>(z:Int)))::Rows.yardSaysRow.laid.tail:=by kernel_rfl
 rw[e] at a
 have c:Lib.TabIs prog W "math/bits.deBruijn64tab" .u8 (Lib.deBruijn64tab.map λz:Nat=>(z:Int)) :=
  Lib.tabIs_of_head (g:=0) (t:=321) (e:=5) (n:=64) (by kernel_rfl) (by kernel_rfl) underlying321 underlying5 (by kernel_rfl) (by kernel_rfl) a
 intro j b;have h:=c.cell (g:=0) (by kernel_rfl) j (by simpa using b)
 rw[h];simp[List.getD,b]
def own:ownKnob prog.godebug=none:=by kernel_rfl
def laidOut:laidOutB prog=true:=by kernel_rfl
def met(os:Os)(a:Array Value):laidMetH prog Rows.yardSaysRow.laid ((World.laidAll prog os Rows.yardSaysRow.laid).forCall (λ_ _=>0) ⟨#[],a,[]⟩).memory:=by
 rw[MakeChecks.laidMetH_plain _ _ _ (by kernel_rfl)]
 exact laidMet_laidAll _ (by kernel_rfl) (by kernel_rfl)
def lifted(os:Os)(started:os.Started)(H:Type)(enc:TypeId × Value->H) :
  ReturnsInHanded {} checked os 3 .any (λw a=>(Rows.yardSaysSpec.pre enc prog f3 [] false w a/\laidMetH prog Rows.yardSaysRow.laid w)/\sizedMet enc prog f3 (OpenSpec.ofChange Rows.yardSaysSpec) false w a)
   (Rows.yardSaysSpec.post enc prog f3 false true false false):=by
 refine returnsInHanded_of_change_and (C:=checked) (X:=λw _=>laidMetH prog Rows.yardSaysRow.laid w) (λ_ _ _ M h=>h.of_heap M) own started (by kernel_rfl) func3
  (ChangeSpec.witness_shaped (enc:=enc) (C:=checked) (os:=os) (X:=λw _=>laidMetH prog Rows.yardSaysRow.laid w) false (World.laidAll prog os Rows.yardSaysRow.laid) #[(0:Int),(0:Int),.slice none 0 0] 8 (World.laidAll_os _ _ _) (World.shaped_of_ZipB (by kernel_rfl) (by kernel_rfl)) (by kernel_rfl) (by kernel_rfl) (by kernel_rfl) (met os _)) ?_
 intro W z a J Z a4 r f _ _ K _;have c:∀(j:Nat) t v,f3.params[j]?=some t->a[j]?=some v->Value.okWide prog W .any z t v:=r;have N:=f;obtain⟨p,q,g,E,rfl,aa,a7⟩:=f;have k:DataW.TrodAll enc prog W 0 (λ_=>true) true f3.params.toList a.toList J p:=g
 rw[params3] at k c;obtain⟨o,a9,d0,a2,p0,V,a5,rfl,rfl,y,B⟩:=trodAll_cons k;obtain⟨i,Y,d1,a6,p1,q1,rfl,rfl,rfl,D,r1⟩:=trodAll_cons B;obtain⟨v2,a3,U,ab,u,q2,rfl,rfl,rfl,d,r2⟩:=trodAll_cons r1;obtain⟨rfl,rfl,rfl⟩:=trodAll_nil r2;obtain rfl:a = #[o,i,v2]:=by cases a;simp_all
 obtain⟨rfl,rfl⟩:=trodVars_none E;obtain⟨Q,rfl,rfl,rfl,O⟩:=open_int underlying3 (c 0 3 o rfl rfl) y;obtain⟨R,rfl,rfl,rfl,s⟩:=open_int underlying3 (c 1 3 i rfl rfl) D;obtain⟨l,len,cap,rfl⟩:=okWide_slice underlying22 (c 2 22 v2 rfl rfl);have n:=d;have F:∀ x∈u,x.block<W.heap.size:=by obtain⟨m,P⟩:=n;exact DataW.trod_lt m _ _ _ P
 obtain⟨b,A,I,T,G⟩:∃ b,lJ W l len b/\len<=maxLen/\uI b/\wu b:=by
  obtain⟨a8,L⟩:=d;exact P8 L
 clear g r;refine(VJ Q R l len cap b W A I T G (Uy W K)).mono λe W' ⟨S,bel⟩=>?_
 subst S;exact⟨_,rfl,_,_,_,[],_,[],N,trodAll_mk1 (shut_bool underlying4 _),(trodAll_cons_mk (shut_int underlying3 O) (trodAll_cons_mk (shut_int underlying3 s) (trodAll_cons_mk (Below.trod laidOut (by kernel_rfl) (of_decide_eq_true (by kernel_rfl)) n bel F) trodAll_mk0))),rfl,bel.frame _,λh=>by cases h⟩
def row:Rows.YardSaysSaid :=
 OpenClaim.holds_of_wide 3 f3 rfl rfl rfl rfl rfl rfl rfl ⟨rfl,rfl,rfl,rfl,rfl⟩ rfl rfl rfl rfl rfl (by kernel_rfl) func3 yardSaysF.facts
  (of_decide_eq_true (by kernel_rfl)) (by unfold Func.isWrapper;first|(rw[if_pos (by decide +kernel)];kernel_rfl)|(rw[if_neg (by decide +kernel)];exact⟨rfl,rfl⟩))
  (λos started H enc _=>lifted os started H enc)
