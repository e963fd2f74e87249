/- YardOpens: its row (the card: the text behind it; together they take more than 10 GB). -/
import Derived.Test.YtbohmhacdgckgaaGreatDoorTie
import Derived.Test.YtbohmhacdgckgaaGreatDoorCards
import Derived.Test.YtbohmhacdgckgaaGreatDoorQOOpenTexts
import Derived.Test.YtbohmhacdgckgaaGreatDoorQOYardOpensF
import Derived.LaidMore
import Derived.MakeChecks
import Derived.Lay
import Derived.Lib.LaidTab
set_option linter.all false
set_option maxRecDepth 100000
namespace Go.Proofs.YtbohmhacdgckgaaGreatDoor.yardOpens
open Go.Proofs.Tryz
open Go.ChangeShapes Go.WideShapes Go.ChangeAt Go.WideMaps Go.WideElems Go.RowKit
def Uy(W:World)(a:laidMetH prog Rows.yardOpensRow.laid W):S4.Tab W:=by
 rw[MakeChecks.laidMetH_plain _ _ _ (by kernel_rfl)] at a
 have e:Rows.yardOpensRow.laid=("math/bits.deBruijn64tab",Lib.tabData .u8 (Lib.deBruijn64tab.map λz:Nat=>(z:Int)))::Rows.yardOpensRow.laid.tail:=by kernel_rfl
 rw[e] at a
 have c:Lib.TabIs prog W "math/bits.deBruijn64tab" .u8 (Lib.deBruijn64tab.map λz:Nat=>(z:Int)) :=
  Lib.tabIs_of_head (g:=0) (t:=321) (e:=5) (n:=64) (by kernel_rfl) (by kernel_rfl) underlying321 underlying5 (by kernel_rfl) (by kernel_rfl) a
 intro j b;have h:=c.cell (g:=0) (by kernel_rfl) j (by simpa using b)
 rw[h];simp[List.getD,b]
def own:ownKnob prog.godebug=none:=by kernel_rfl
def laidOut:laidOutB prog=true:=by kernel_rfl
def met(os:Os)(a:Array Value):laidMetH prog Rows.yardOpensRow.laid ((World.laidAll prog os Rows.yardOpensRow.laid).forCall (λ_ _=>0) ⟨#[],a,[]⟩).memory:=by
 rw[MakeChecks.laidMetH_plain _ _ _ (by kernel_rfl)]
 exact laidMet_laidAll _ (by kernel_rfl) (by kernel_rfl)
def lifted(os:Os)(started:os.Started)(H:Type)(enc:TypeId × Value->H) :
  ReturnsInHanded {} checked os 4 .any (λw a=>(Rows.yardOpensSpec.pre enc prog f4 [] false w a/\laidMetH prog Rows.yardOpensRow.laid w)/\sizedMet enc prog f4 (OpenSpec.ofChange Rows.yardOpensSpec) false w a)
   (Rows.yardOpensSpec.post enc prog f4 false true false false):=by
 refine returnsInHanded_of_change_and (C:=checked) (X:=λw _=>laidMetH prog Rows.yardOpensRow.laid w) (λ_ _ _ Y h=>h.of_heap Y) own started (by kernel_rfl) func4
  (ChangeSpec.witness_shaped (enc:=enc) (C:=checked) (os:=os) (X:=λw _=>laidMetH prog Rows.yardOpensRow.laid w) false (World.laidAll prog os Rows.yardOpensRow.laid) #[.slice none 0 0,ByteArray.empty,.slice none 0 0] 8 (World.laidAll_os _ _ _) (World.shaped_of_ZipB (by kernel_rfl) (by kernel_rfl)) (by kernel_rfl) (by kernel_rfl) (by kernel_rfl) (met os _)) ?_
 intro W base a V gs a8 u A _ _ M _;have b:∀(j:Nat) t v,f4.params[j]?=some t->a[j]?=some v->Value.okWide prog W .any base t v:=u;have O:=A;obtain⟨p,q,B,R,rfl,ab,aa⟩:=A;have E:DataW.TrodAll enc prog W 0 (λ_=>true) true f4.params.toList a.toList V p:=B
 rw[params4] at E b;obtain⟨s,a5,d0,a3,Z,q0,a9,rfl,rfl,z,K⟩:=trodAll_cons E;obtain⟨n,a2,d1,a4,p1,q1,rfl,rfl,rfl,S,r1⟩:=trodAll_cons K;obtain⟨v2,a7,d2,a6,I,q2,rfl,rfl,rfl,l,r2⟩:=trodAll_cons r1;obtain⟨rfl,rfl,rfl⟩:=trodAll_nil r2;obtain rfl:a = #[s,n,v2]:=by cases a;simp_all
 obtain⟨rfl,rfl⟩:=trodVars_none R;obtain⟨g,d,o,rfl⟩:=okWide_slice underlying44 (b 0 44 s rfl rfl);have D:=z;have G:∀ x∈Z,x.block<W.heap.size:=by obtain⟨m,k⟩:=D;exact DataW.trod_lt m _ _ _ k
 obtain⟨f,J,N,a0⟩:∃ f,Texts W g d f/\(g=none->o=0)/\d<=maxLen:=by
  obtain⟨P,i⟩:=z;exact P8 i
 obtain⟨a1,rfl,rfl,rfl,y⟩:=Go.ChangeMaps.open_string underlying9 (b 1 9 n rfl rfl) S;obtain⟨F,len,cap,rfl⟩:=okWide_slice underlying22 (b 2 22 v2 rfl rfl);have r:=l;have U:∀ x∈I,x.block<W.heap.size:=by obtain⟨m,k⟩:=r;exact DataW.trod_lt m _ _ _ k
 obtain⟨c,T,L,hB⟩:∃ c,lJ W F len c/\len<=maxLen/\uI c:=by
  obtain⟨P,i⟩:=l;exact P7 i
 clear B u;refine(WX g d o f a1 F len cap c W J N a0 y T L hB (Uy W M)).mono λe W' ⟨Q,bel⟩=>?_
 subst Q;exact⟨_,rfl,_,_,_,[],_,[],O,trodAll_mk1 (shut_bool underlying4 _),(trodAll_cons_mk (Below.trod laidOut (by kernel_rfl) (of_decide_eq_true (by kernel_rfl)) D bel G) (trodAll_cons_mk (Go.ChangeMaps.shut_string underlying9 y) (trodAll_cons_mk (Below.trod laidOut (by kernel_rfl) (of_decide_eq_true (by kernel_rfl)) r bel U) trodAll_mk0))),rfl,bel.frame _,λh=>by cases h⟩
def row:Rows.YardOpensSaid :=
 OpenClaim.holds_of_wide 4 f4 rfl rfl rfl rfl rfl rfl rfl ⟨rfl,rfl,rfl,rfl,rfl⟩ rfl rfl rfl rfl rfl (by kernel_rfl) func4 yardOpensF.facts
  (of_decide_eq_true (by kernel_rfl)) (by unfold Func.isWrapper;first|(rw[if_pos (by decide +kernel)];kernel_rfl)|(rw[if_neg (by decide +kernel)];exact⟨rfl,rfl⟩))
  (λos started H enc _=>lifted os started H enc)
