/- For every number of clusters and places and every list of acts, TopAlone answers true, ends, and changes no argument: behind each act what the guest reads hangs on the files of the chain alone, and a job that an act concludes leaves the chain that the document names: a mirror its target, a commit its file and what is below, a stream the root and what is below its file. Three tables of Go's library (math/bits.deBruijn64tab, which the road reads; unicode/utf8.acceptRanges, and unicode/utf8.first, a pinned one, which it never reads) are listed; the card ties them to the program's text. No other condition. -/
import Derived.Test.YtonhoahnieoebabGreatDoorTie
import Derived.Test.YtonhoahnieoebabGreatDoorCards
import Derived.Test.YtonhoahnieoebabGreatDoorQATopAlone2
import Derived.Test.YtonhoahnieoebabGreatDoorQATopAloneF
import Derived.LaidMore
import Derived.MakeChecks
import Derived.Lay
import Derived.Lib.LaidTab
set_option maxRecDepth 100000
namespace Go.Proofs.YtonhoahnieoebabGreatDoor.topAlone
open Go.ChangeShapes Go.WideShapes Go.ChangeAt Go.WideMaps Go.WideElems Go.RowKit
theorem Sj(W:World)(hL:laidMetH Tryz.prog Rows.topAloneRow.laid W):S4.Tab W:=by
 rw[MakeChecks.laidMetH_plain _ _ _ (by kernel_rfl)] at hL
 have e:Rows.topAloneRow.laid=("math/bits.deBruijn64tab",Lib.tabData .u8 (Lib.deBruijn64tab.map fun z:Nat=>(z:Int)))::Rows.topAloneRow.laid.tail:=by kernel_rfl
 rw[e] at hL
 have hT:Lib.TabIs Tryz.prog W "math/bits.deBruijn64tab" .u8 (Lib.deBruijn64tab.map fun z:Nat=>(z:Int)) :=
  Lib.tabIs_of_head (g:=0) (t:=324) (e:=5) (n:=64) (by kernel_rfl) (by kernel_rfl) Tryz.underlying324 Tryz.underlying5 (by kernel_rfl) (by kernel_rfl) hL
 intro j hj;have h:=hT.cell (g:=0) (by kernel_rfl) j (by simpa using hj)
 rw[h];simp[List.getD,hj]
theorem own:ownKnob Tryz.prog.godebug=none:=by kernel_rfl
theorem laidOut:laidOutB Tryz.prog=true:=by kernel_rfl
theorem met(os:Os)(args:Array Value):laidMetH Tryz.prog Rows.topAloneRow.laid ((World.laidAll Tryz.prog os Rows.topAloneRow.laid).forCall (fun _ _=>0) ⟨#[],args,[]⟩).memory:=by
 rw[MakeChecks.laidMetH_plain _ _ _ (by kernel_rfl)]
 exact laidMet_laidAll _ (by kernel_rfl) (by kernel_rfl)
theorem lifted(os:Os)(started:os.Started)(H:Type)(enc:TypeId × Value→H) :
  ReturnsInHanded {} Tryz.checked os 9 .any (fun w args=>(Rows.topAloneSpec.pre enc Tryz.prog Tryz.f9 [] false w args∧laidMetH Tryz.prog Rows.topAloneRow.laid w)∧sizedMet enc Tryz.prog Tryz.f9 (OpenSpec.ofChange Rows.topAloneSpec) false w args)
   (Rows.topAloneSpec.post enc Tryz.prog Tryz.f9 false true false false):=by
 refine returnsInHanded_of_change_and (C:=Tryz.checked) (X:=fun w _=>laidMetH Tryz.prog Rows.topAloneRow.laid w) (fun _ _ _ hh h=>h.of_heap hh) own started (by kernel_rfl) Tryz.func9
  (ChangeSpec.witness_shaped (enc:=enc) (C:=Tryz.checked) (os:=os) (X:=fun w _=>laidMetH Tryz.prog Rows.topAloneRow.laid w) false (World.laidAll Tryz.prog os Rows.topAloneRow.laid) #[.int .i64 0,.int .i64 0,.slice none 0 0] 8 (World.laidAll_os _ _ _) (World.shaped_of_ZipB (by kernel_rfl) (by kernel_rfl)) (by kernel_rfl) (by kernel_rfl) (by kernel_rfl) (met os _)) ?_
 intro W base args ds gs before hval0 hW _ _ hL _;have hval:∀(j:Nat) t v,Tryz.f9.params[j]?=some t→args[j]?=some v→Value.okWide Tryz.prog W .any base t v:=hval0;have hW':=hW;obtain⟨p,q,hA0,hV,rfl,hfz,hnd⟩:=hW;have hA:DataW.TrodAll enc Tryz.prog W 0 (fun _=>true) true Tryz.f9.params.toList args.toList ds p:=hA0
 rw[Tryz.params9] at hA hval;obtain⟨v0,vs0,d0,ds0,p0,q0,hargs,rfl,rfl,h0,r0⟩:=trodAll_cons hA;obtain⟨v1,vs1,d1,ds1,p1,q1,rfl,rfl,rfl,h1,r1⟩:=trodAll_cons r0;obtain⟨v2,vs2,d2,ds2,p2,q2,rfl,rfl,rfl,h2,r2⟩:=trodAll_cons r1;obtain⟨rfl,rfl,rfl⟩:=trodAll_nil r2;obtain rfl:args = #[v0,v1,v2]:=by cases args;simp_all
 obtain⟨rfl,rfl⟩:=trodVars_none hV;obtain⟨a0,rfl,rfl,rfl,w0⟩:=open_int Tryz.underlying3 (hval 0 3 v0 rfl rfl) h0;obtain⟨a1,rfl,rfl,rfl,w1⟩:=open_int Tryz.underlying3 (hval 1 3 v1 rfl rfl) h1;obtain⟨la,len,cap,rfl⟩:=okWide_slice Tryz.underlying23 (hval 2 23 v2 rfl rfl);have k2:=h2;have lt2:∀ x∈p2,x.block<W.heap.size:=by obtain⟨m,hm⟩:=k2;exact DataW.trod_lt m _ _ _ hm
 obtain⟨xs,hT,hlen,hB⟩:∃ xs,lZ W la len xs∧len≤maxLen∧vK xs:=by
  obtain⟨fuel,hf⟩:=h2;exact O6 hf
 clear hA0 hval0;refine(Ic a0 a1 la len cap xs W hT hlen hB (Sj W hL)).mono fun e W' ⟨he,bel⟩=>?_
 subst he;exact⟨_,rfl,_,_,_,[],_,[],hW',trodAll_mk1 (shut_bool Tryz.underlying4 _),(trodAll_cons_mk (shut_int Tryz.underlying3 w0) (trodAll_cons_mk (shut_int Tryz.underlying3 w1) (trodAll_cons_mk (Below.trod laidOut (by kernel_rfl) (of_decide_eq_true (by kernel_rfl)) k2 bel lt2) trodAll_mk0))),rfl,bel.frame _,fun h=>by cases h⟩
theorem row:Rows.TopAloneSaid :=
 OpenClaim.holds_of_wide 9 Tryz.f9 rfl rfl rfl rfl rfl rfl rfl ⟨rfl,rfl,rfl,rfl,rfl⟩ rfl rfl rfl rfl rfl (by kernel_rfl) Tryz.func9 topAloneF.facts
  (of_decide_eq_true (by kernel_rfl)) (by unfold Func.isWrapper;first|(rw[if_pos (by decide +kernel)];kernel_rfl)|(rw[if_neg (by decide +kernel)];exact⟨rfl,rfl⟩))
  (fun os started H enc _=>lifted os started H enc)
end Go.Proofs.YtonhoahnieoebabGreatDoor.topAlone
namespace Go.Proofs.YtonhoahnieoebabGreatDoor
theorem topAlone_holds:Rows.TopAloneCardSaid :=
  Claim7.holds_tied_plain_at .later [] [.data,.data,.pinned] true Rows.topAloneCard.stood.harness true
    topAlone.row (fun _ h=>by cases h) (by kernel_rfl) (fun _ h=>by cases h) topAlone_row_tie rfl ⟨rfl,rfl⟩ (by kernel_rfl) rfl
    (fun f fn hf hfn=>by
      obtain rfl:f=9:=Option.some.inj ((show Tryz.prog.funcNamed Rows.topAloneRow.func=some 9 by kernel_rfl).symm.trans hf) |>.symm
      obtain rfl:fn=Tryz.f9:=(Option.some.inj (Tryz.func9.symm.trans hfn)).symm
      exact⟨by kernel_rfl,fun j t ht=>by
        rw[Tryz.params9] at ht;have hm:t∈[3,3,23]:=by simpa using Array.mem_of_getElem? ht
        have hall:([3,3,23].all fun u => !Tryz.prog.wantsStandIn u)=true:=by kernel_rfl
        exact(show Tryz.prog.wantsStandIn t=false by simpa using List.all_eq_true.1 hall t hm)⟩)
    (by kernel_rfl)
#print axioms topAlone_holds
end Go.Proofs.YtonhoahnieoebabGreatDoor
