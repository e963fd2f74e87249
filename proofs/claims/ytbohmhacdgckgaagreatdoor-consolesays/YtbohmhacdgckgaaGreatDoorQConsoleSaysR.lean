/- A part. -/
import Derived.Test.YtbohmhacdgckgaaGreatDoorQConsoleSaysF
import Derived.Test.YtbohmhacdgckgaaGreatDoorQConsoleSaysV
set_option linter.all false
set_option maxRecDepth 100000
namespace Go.Proofs.YtbohmhacdgckgaaGreatDoor.consoleSays
open Option renaming none->O, some->S
open Go.Proofs.Tryz
open Go.ChangeShapes Go.WideShapes Go.ChangeAt Go.WideMaps Go.WideElems Go.RowKit
def own:ownKnob prog.godebug=none:=by kernel_rfl
def laidOut:laidOutB prog=true:=by kernel_rfl
def met(os a):laidMetH prog Rows.consoleSaysRow.laid ((World.laidAll prog os Rows.consoleSaysRow.laid).forCall (λ_ _=>0) ⟨#[],a,[]⟩).memory:=by
 rw[MakeChecks.laidMetH_plain _ _ _ (by kernel_rfl)];exact laidMet_laidAll _ (by kernel_rfl) (by kernel_rfl)
def lifted(os)(started:os.Started)(H)(enc:TypeId × Value->H) :
  ReturnsInHanded {} checked os 5 .any (λw a=>(Rows.consoleSaysSpec.pre enc prog f5 [] false w a/\laidMetH prog Rows.consoleSaysRow.laid w)/\sizedMet enc prog f5 (OpenSpec.ofChange Rows.consoleSaysSpec) false w a)
   (Rows.consoleSaysSpec.post enc prog f5 false true false false):=by
 refine QO (C:=checked) (X:=λw _=>laidMetH prog Rows.consoleSaysRow.laid w) (λ_ _ _ L h=>h.of_heap L) own started (by kernel_rfl) func5
  (ChangeSpec.witness_shaped (enc:=enc) (C:=checked) (os:=os) (X:=λw _=>laidMetH prog Rows.consoleSaysRow.laid w) false (World.laidAll prog os Rows.consoleSaysRow.laid) #[(0:Int),(0:Int),.slice O 0 0] 8 (World.laidAll_os _ _ _) (World.shaped_of_ZipB (by kernel_rfl) (by kernel_rfl)) (by kernel_rfl) (by kernel_rfl) (by kernel_rfl) (met os _)) ?_
 intro W base a G gs a4 s g I R;have b:∀(j:Nat) t v,f5.params[j]?=S t->a[j]?=S v->Value.okWide prog W .any base t v:=s;have M:=g;obtain⟨p,q,i,E,rfl,ab,a7⟩:=g;have l:DataW.TrodAll enc prog W 0 (λ_=>true) true f5.params.toList a.toList G p:=i;rw[params5] at l b;obtain⟨r,a9,d0,a2,p0,Y,a5,rfl,rfl,z,B⟩:=trodAll_cons l;obtain⟨k,Z,d1,a6,p1,q1,rfl,rfl,rfl,D,r1⟩:=trodAll_cons B;obtain⟨v2,a3,V,ac,y,q2,rfl,rfl,rfl,f,r2⟩:=trodAll_cons r1;obtain⟨rfl,rfl,rfl⟩:=trodAll_nil r2;obtain rfl:a = #[r,k,v2]:=by cases a;simp_all
 obtain⟨rfl,rfl⟩:=trodVars_none E;obtain⟨Q,rfl,rfl,rfl,N⟩:=open_int underlying3 (b 0 3 r rfl rfl) z;obtain⟨T,rfl,rfl,rfl,u⟩:=open_int underlying3 (b 1 3 k rfl rfl) D;obtain⟨d,c,n,rfl⟩:=okWide_slice underlying44 (b 2 44 v2 rfl rfl);have o:=f;have F:∀ x∈y,x.block<W.heap.size:=by obtain⟨m,P⟩:=o;exact DataW.trod_lt m _ _ _ P
 obtain⟨ls,A,J,aa⟩:∃ ls,Texts W d c ls/\(d=O->n=0)/\c<=maxLen:=by
  obtain⟨a8,K⟩:=f;exact UK K
 clear i s;refine(Oh Q T d c n ls W A J (varsOf W I R)).mono λe W' ⟨U,bel⟩=>?_
 subst U;exact⟨_,rfl,_,_,_,[],_,[],M,trodAll_mk1 (shut_bool underlying4 _),(trodAll_cons_mk (shut_int underlying3 N) (trodAll_cons_mk (shut_int underlying3 u) (trodAll_cons_mk (Below.trod laidOut (by kernel_rfl) (of_decide_eq_true (by kernel_rfl)) o bel F) trodAll_mk0))),rfl,bel.frame _,λh=>by cases h⟩
def row:Rows.ConsoleSaysSaid :=
 OpenClaim.holds_of_wide 5 f5 rfl rfl rfl rfl rfl rfl rfl ⟨rfl,rfl,rfl,rfl,rfl⟩ rfl rfl rfl rfl rfl (by kernel_rfl) func5 consoleSaysF.facts
  (of_decide_eq_true (by kernel_rfl)) (by unfold Func.isWrapper;first|(rw[if_pos (by decide +kernel)];kernel_rfl)|(rw[if_neg (by decide +kernel)];exact⟨rfl,rfl⟩))
  (λos started H enc _=>lifted os started H enc)
