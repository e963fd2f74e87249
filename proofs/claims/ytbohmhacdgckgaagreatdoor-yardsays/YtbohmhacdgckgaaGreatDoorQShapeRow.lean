/- Is a sector sealed; heads (C1): in the program and in the document's answer: what each call gives. -/
import Derived.Test.YtbohmhacdgckgaaGreatDoorQShapeSeal2
set_option linter.all false
set_option maxHeartbeats 2000000
set_option maxRecDepth 100000
namespace Go.Proofs.YtbohmhacdgckgaaGreatDoor
open Go.RowKit renaming Below->β
open Go renaming World->ω, Value->υ, Calls->κ
open Option renaming none->O, some->S
open Go.Proofs.Tryz Go.RowKit
attribute [local go_sem ↓] Go.wp_at_zero Go.wp_at_succ
def aN:erV 0=.nilIface:=by simp[erV]
def eu:erV 1=.iface 96 (.int .i64 1):=by simp[erV]
def xg:erV 2=.iface 96 (.int .i64 2):=by simp[erV]
def Md:erV 3=.iface 96 (.int .i64 3):=by simp[erV]
def lu{a b:υ}(h:a=b):Ending.returned a=.returned b:=by rw[h]
def qH{a b:Int}(h:a=b):Ending.returned a=.returned b:=by rw[h]
def Hg(s:ByteArray)(f:s.size=16):∃(T:Nat) (F:ByteArray),T<4294967296/\(yG s=(F.toList==(s.extract 12 s.size).toList)) /\
  (∀(b:Nat) (W:ω),W.cell? ⟨b,0,O⟩=S (.string (s.extract 0 12))->κ prog 211 #[.slice (S ⟨b,0,O⟩) 1 1] W λe a=>e=.returned (.int .u32 T)/\a=W) /\
  (∀ W:ω,κ prog 210 #[.int .u32 T] W λe a=>e=.returned F/\β W W a) /\
  (∀ W:ω,κ prog 213 #[.string (s.extract 0 12)] W λe a=>e=.returned (.int .u32 T)/\a=W) /\
  (∀ W:ω,κ prog 212 #[.int .u32 T] W λe a=>e=.returned F/\β W W a):=by
 have d:(s.extract 0 12).size<=12:=by simp_all
 have c:=Crc.yX (s.extract 0 12).data.toList;exact⟨Crc.total _,four _,c,rfl,λb W h=>FX _ b 1 W (by unfold maxLen;omega) h,λW=>Dp _ W c,λW=>Gx _ W (by omega),λW=>Gt _ W c⟩
def wK(s:ByteArray)(w:ω) :
    κ prog 151 #[s] w λe f=>e=.returned (erV (bV s))/\β w w f:=by
  by_cases a:s.size=16
  . have g1:((s.size:Int) != 16)=false:=by simp;omega
    have g2:(12:Int)<=(s.size:Int):=by omega
    have h:β w w w.drew:=(ja0 _ _).drew;obtain⟨T,F,q,d,l,k,o,r⟩:=Hg s a;have j:=ah l;have i:=ah k
    cases c:yG s with
    | true =>
      have b:Hid (erV (bV s)=.nilIface):=by unfold Hid bV;rw[if_pos a,if_pos c];exact aN
      rw[d] at c;clear a d;go_enter func151,ntmps151
      go_wp2
      go_region_held3 (λW=>β w w W) (first|(exact h)|assumption|(exact Below.alloc (by assumption) (jbr (by assumption)) _))
        (first
          | (go_at_call 211;refine cEq (j.out _ _ (cell_of_row _ _ _ _ _ _ (heap_alloc_new _ _))) λf rfl=>?_)
          | (go_at_call 210;refine cEq (i.out _) λn g=>?_;have m:=jaA (by assumption:β w w _) (g.mono (jbr (by assumption)))))
      all_goals
        go_wp2
        go_ret
        exact⟨lu b.out.symm,by assumption⟩
    | false =>
      have b:Hid (erV (bV s)=.iface 96 (.int .i64 3)):=by unfold Hid bV;rw[if_pos a,if_neg (by rw[c];decide)];exact Md
      rw[d] at c;clear a d;go_enter func151,ntmps151
      go_wp2
      go_region_held3 (λW=>β w w W) (first|(exact h)|assumption|(exact Below.alloc (by assumption) (jbr (by assumption)) _))
        (first
          | (go_at_call 211;refine cEq (j.out _ _ (cell_of_row _ _ _ _ _ _ (heap_alloc_new _ _))) λf rfl=>?_)
          | (go_at_call 210;refine cEq (i.out _) λn g=>?_;have m:=jaA (by assumption:β w w _) (g.mono (jbr (by assumption)))))
      all_goals
        go_wp2
        go_ret
        exact⟨lu b.out.symm,by assumption⟩
  . have g1:((s.size:Int) != 16)=true:=by simp;omega
    have b:Hid (erV (bV s)=.iface 96 (.int .i64 1)):=by unfold Hid bV;rw[if_neg a];exact eu
    go_enter func151,ntmps151
    go_wp2
    go_ret
    exact⟨lu b.out.symm,ja0 _ _⟩
def xW(s:ByteArray)(w:ω) :
    κ prog 156 #[s] w λe f=>e=.returned (bV s)/\β w w f:=by
  by_cases a:s.size=16
  . have g1:((s.size:Int) != 16)=false:=by simp;omega
    have g2:(12:Int)<=(s.size:Int):=by omega
    have h:β w w w.drew:=(ja0 _ _).drew;obtain⟨T,F,r,d,q,o,k,l⟩:=Hg s a;have i:=ah k;have j:=ah l
    cases c:yG s with
    | true =>
      have b:Hid (bV s=0):=by unfold Hid bV;rw[if_pos a,if_pos c]
      rw[d] at c;clear a d;go_enter func156,ntmps156
      go_wp2
      go_region_held3 (λW=>β w w W) (first|(exact h)|assumption)
        (first
          | (go_at_call 213;refine cEq (i.out _) λf rfl=>?_)
          | (go_at_call 212;refine cEq (j.out _) λn g=>?_;have m:=jaA (by assumption:β w w _) (g.mono (jbr (by assumption)))))
      all_goals
        go_wp2
        go_ret
        exact⟨qH b.out.symm,by assumption⟩
    | false =>
      have b:Hid (bV s=3):=by unfold Hid bV;rw[if_pos a,if_neg (by rw[c];decide)]
      rw[d] at c;clear a d;go_enter func156,ntmps156
      go_wp2
      go_region_held3 (λW=>β w w W) (first|(exact h)|assumption)
        (first
          | (go_at_call 213;refine cEq (i.out _) λf rfl=>?_)
          | (go_at_call 212;refine cEq (j.out _) λn g=>?_;have m:=jaA (by assumption:β w w _) (g.mono (jbr (by assumption)))))
      all_goals
        go_wp2
        go_ret
        exact⟨qH b.out.symm,by assumption⟩
  . have g1:((s.size:Int) != 16)=true:=by simp;omega
    have b:Hid (bV s=1):=by unfold Hid bV;rw[if_neg a]
    go_enter func156,ntmps156
    go_wp2
    go_ret
    exact⟨qH b.out.symm,ja0 _ _⟩
def qp{n a b:Int}(h:a<=n/\n<=b):inB n a b=true:=decide_eq_true h
def xC{n a b:Int}(h:¬(a<=n/\n<=b)):inB n a b=false:=decide_eq_false h
def oW(c p b:Int)(w:ω) :
  κ prog 27 #[.agg #[c,p,b]] w λe g=>e=.returned (erV (HV.fault ⟨c,p,b⟩))/\β w w g:=by
 have i:β w w (w.alloc (.cells #[c,p,b] 67)):=(ja0 _ _).alloc (ja1 _) _
 have j:(∃ H:Hid (erV (HV.fault ⟨c,p,b⟩)=.nilIface),inB c 1 32=true/\inB p 0 40=true/\inB b (-1) 4=true)\/∃ H:Hid (erV (HV.fault ⟨c,p,b⟩)=.iface 96 (.int .i64 1)),(inB c 1 32=false)\/(inB c 1 32=true/\inB p 0 40=false)\/(inB c 1 32=true/\inB p 0 40=true/\inB b (-1) 4=false):=by
  unfold Hid HV.fault HV.ok;simp only[decide_eq_true_eq];by_cases a:1<=c/\c<=32
  .by_cases d:0<=p/\p<=40
   .by_cases f : -1<=b/\b<=4
    .exact .inl ⟨by rw[if_pos ⟨a.1,a.2,d.1,d.2,f.1,f.2⟩];exact aN,qp a,qp d,qp f⟩
    .exact .inr ⟨by rw[if_neg (by omega)];exact eu,.inr (.inr ⟨qp a,qp d,xC f⟩)⟩
   .exact .inr ⟨by rw[if_neg (by omega)];exact eu,.inr (.inl ⟨qp a,xC d⟩)⟩
  .exact .inr ⟨by rw[if_neg (by omega)];exact eu,.inl (xC a)⟩
 rcases j with⟨h,g1,g2,g3⟩|⟨h,g1|⟨g1,g2⟩|⟨g1,g2,g3⟩⟩
 .go_enter func27,ntmps27
  go_wp2_with (go_at_call 96;refine cEq (lI _ _ _ _) λg rfl=>?_)
  go_ret
  exact⟨lu h.out.symm,i⟩
 all_goals
  go_enter func27,ntmps27
  go_wp2_with (go_at_call 96;refine cEq (lI _ _ _ _) λg rfl=>?_)
  go_ret
  exact⟨lu h.out.symm,i⟩
def o8(c p b:Int)(w:ω) :
  κ prog 33 #[.agg #[c,p,b]] w λe l=>e=.returned (HV.fault ⟨c,p,b⟩)/\β w w l:=by
 have g:β w w (w.alloc (.cells #[c,p,b] 67)):=(ja0 _ _).alloc (ja1 _) _;by_cases i:1<=c/\c<=32/\0<=p/\p<=40 /\ -1<=b/\b<=4
 .have d:Hid (HV.fault ⟨c,p,b⟩=0):=if_pos (decide_eq_true i)
  have g1:decide (c<1)=false:=by simp;omega
  have g2:decide (32<c)=false:=by simp;omega
  have g3:decide (p<0)=false:=by simp;omega
  have a:decide (40<p)=false:=by simp;omega
  have f:decide (b < -1)=false:=by simp;omega
  have k:decide (4<b)=false:=by simp;omega
  go_enter func33,ntmps33
  go_wp2
  go_ret
  exact⟨qH d.out.symm,g⟩
 .have d:Hid (HV.fault ⟨c,p,b⟩=1):=if_neg (λh=>i (of_decide_eq_true h))
  have j:decide (c<1)=true\/(decide (c<1)=false/\decide (32<c)=true)\/(decide (c<1)=false/\decide (32<c)=false/\decide (p<0)=true)\/(decide (c<1)=false/\decide (32<c)=false/\decide (p<0)=false/\decide (40<p)=true) \/
    (decide (c<1)=false/\decide (32<c)=false/\decide (p<0)=false/\decide (40<p)=false/\decide (b < -1)=true)\/(decide (c<1)=false/\decide (32<c)=false/\decide (p<0)=false/\decide (40<p)=false/\decide (b < -1)=false/\decide (4<b)=true):=by
   simp only[decide_eq_true_eq,decide_eq_false_iff_not];omega
  rcases j with g1|⟨g1,g2⟩|⟨g1,g2,g3⟩|⟨g1,g2,g3,a⟩|⟨g1,g2,g3,a,f⟩|⟨g1,g2,g3,a,f,k⟩
  all_goals
   go_enter func33,ntmps33
   go_wp2
   go_ret
   exact⟨qH d.out.symm,g⟩
def nU{W a:ω}(c:β W W a):(∀ b o,b<W.heap.size->a.cell? ⟨b,o,O⟩=W.cell? ⟨b,o,O⟩)/\(∀ b o,b<W.heap.size->a.frozen? ⟨b,o,O⟩=W.frozen? ⟨b,o,O⟩) :=
 ⟨λb o h=>c.cell  h,λb o h=>c.frozen  h⟩
def HV.dK{h:HV}(a:h.ok=true):1<=h.c/\h.c<=32/\0<=h.p/\h.p<=40 /\ -1<=h.b/\h.b<=4:=of_decide_eq_true a
def Dv(w:ω)(l:List Int)(t:TypeId)(j:Nat)(a:j<l.length):(w.alloc (.cells (byV l).toArray t)).cell? ⟨w.heap.size,j,O⟩=S (.int .u8 (l.getD j 0)):=by
 rw[cell_of_row _ _ _ _ _ _ (heap_alloc_new w _),jaN];exact sU l j a
def Gg(w:ω)(l:List Int)(N:Nat)(a:w.heap.size=N)(b:l.length<=12):(w.alloc (.cells (byV l).toArray 5)).ownsRow N 5 1 (.slice (S ⟨N,0,O⟩) l.length l.length) l.length (byV l):=by
 subst a;refine⟨by simp[byV],.inr ⟨w.heap.size,l.length,(byV l).toArray,rfl,ja1 _,heap_alloc_new w _,ja1 _,by unfold maxLen;omega,by simp[byV],?_⟩⟩
 rw[jar (by simp[byV])]
def EJ(c p b:Int)(w:ω)(f:HV.ok ⟨c,p,b⟩=true) :
  κ prog 175 #[.agg #[c,p,b]] w λe k=>e=.returned (.tuple #[.string (fO [83,89,c,p,b+1]),.nilIface])/\β w w k:=by
 have g:=oW c p b (w.alloc (.cells #[c,p,b] 67));have i:erV (HV.fault ⟨c,p,b⟩)=.nilIface:=by unfold HV.fault;rw[if_pos f];exact aN
 rw[i] at g;obtain⟨g1,g2,g3,h,m,j⟩:=HV.dK f;simp only at g1 g2 g3 h m j;go_enter func175,ntmps175
 go_wp2_with fail
 refine cEq g λd a=>?_
 obtain⟨q,n⟩:=nU a;have r:w.heap.size<d.heap.size:=by have:=a.size;simp at this;omega
 go_wp2_with fail
 refine(Hl [83,89,c,p,b+1] _ 5 _ (by simp) ?_ (Dv d _ 5)).mono ?_
 .simp
 rintro e o ⟨rfl,l⟩;go_wp2
 go_ret2
 exact⟨rfl,((((ja0 _ _).alloc (ja1 _) _).trans (a.mono (by simp))).alloc (by omega) _).trans (l.mono (by simp;omega))⟩
def EI(c p b:Int)(w:ω)(f:HV.ok ⟨c,p,b⟩=false) :
  κ prog 175 #[.agg #[c,p,b]] w λe g=>e=.returned (.tuple #[.string ⟨#[]⟩,.iface 96 (.int .i64 1)])/\β w w g:=by
 have a:=oW c p b (w.alloc (.cells #[c,p,b] 67));have d:erV (HV.fault ⟨c,p,b⟩)=.iface 96 (.int .i64 1):=by unfold HV.fault;rw[if_neg (by rw[f];decide)];exact eu
 rw[d] at a;go_enter func175,ntmps175
 go_wp2_with fail
 refine cEq a λi h=>?_
 go_wp2
 go_ret2
 exact⟨rfl,((ja0 _ _).alloc (ja1 _) _).trans (h.mono (by simp))⟩
def Ar(c p b:Int)(w:ω)(h:HV.ok ⟨c,p,b⟩=true) :
  κ prog 111 #[.agg #[c,p,b]] w λe i=>e=.returned (.string (fO [83,89,c,p,b+1]))/\β w w i:=by
 obtain⟨g1,g2,g3,a,f,d⟩:=HV.dK h;simp only at g1 g2 g3 a f d;go_enter func111,ntmps111
 go_wp2_with fail
 refine(Gv [83,89,c,p,b+1] _ _ 5 _ (by simp) ?_ (Gg _ _ _ (by simp) (by simp))).mono ?_
 .simp
 rintro e j ⟨rfl,g⟩;go_wp2
 go_ret
 exact⟨rfl,(((ja0 _ _).alloc (ja1 _) _).alloc (by simp) _).trans (g.mono (by omega))⟩
def kQ{w a c:ω}{C:Array υ}{t:TypeId}{o:Obj}(b:β (w.alloc (.cells C t)).heap.size (w.alloc (.cells C t)) a)(f:β (a.alloc o).drew.heap.size (a.alloc o).drew c)(i:Nat)(v:υ)(d:C[i]?=S v) :
  c.cell? ⟨w.heap.size,i,O⟩=S v:=by
 have g:=b.size;simp at g
 rw[f.cell (by simp;omega)]
 show(a.alloc o).cell? _=_
 rw[jas _ _ _ (by omega),b.cell (by simp),cell_of_row _ _ _ _ _ _ (heap_alloc_new w _)]
 exact d
def below3{w a g:ω}{o b:Obj}(d:β (w.alloc o).heap.size (w.alloc o) a)(h:β (a.alloc b).drew.heap.size (a.alloc b).drew g):β w w g:=by
 have i:=d.size;have f  := ((ja0 _ _).alloc (ja1 _) _).trans (d.mono (by simp))
 have c:β _ w (a.alloc b).drew:=(f.alloc f.size _).drew;exact c.trans (h.mono c.size)
def yN{s:ByteArray}(a:bV s=0):s.size=16:=by
 unfold bV at a;omega
def yu(s:ByteArray)(h:s.size=16):∃(b:2<s.size) (a:3<s.size) (c:4<s.size),((s[2]'b).toNat:Int)=bAt s 2/\((s[3]'a).toNat:Int)=bAt s 3/\((s[4]'c).toNat:Int)=bAt s 4 :=
 ⟨by omega,by omega,by omega,nT s 2 _,nT s 3 _,nT s 4 _⟩
def QS(s:ByteArray)(w:ω)(a:bV s≠0) :
  κ prog 148 #[s] w λe i=>e=.returned (.tuple #[.agg (fV s).cells,erV (dN s)])/\β w w i:=by
 have b:=wK s (w.alloc (.cells #[(0:Int),(0:Int),(0:Int)] 67));have g:dN s=bV s:=by unfold dN;rw[if_neg a]
 have k:fV s=HV.zero:=by unfold fV;rw[if_neg (λh=>a h.1)]
 have c:erV (bV s)=.iface 96 (.int .i64 (bV s)):=by unfold erV;rw[if_neg a]
 rw[g,k,c];rw[c] at b;generalize bV s=f at b;go_enter func148,ntmps148
 go_wp2_with fail
 refine cEq b λm d=>?_
 obtain⟨j,l⟩:=nU d;go_wp2
 exact bodyPost_ret (v:=.tuple #[.agg #[(0:Int),(0:Int),(0:Int)],.iface 96 _]) (by simp[results,results148,go_sem,j]) rfl ⟨rfl,((((((ja0 _ _).alloc (ja1 _) _).trans (d.mono (by simp))).setCell (by simp) _).setCell (by simp) _).setCell (by simp) _)⟩
def NJ(s:ByteArray)(d:bV s=0):∃ X E,(∀ W:ω,κ prog 175 #[.agg #[bAt s 2,bAt s 3,(bAt s 4-1:Int)]] W λe g=>e=.returned (.tuple #[.string X,E])/\β W W g) /\
  (((∃ fl,E=.iface 96 (.int .i64 fl))\/E=.nilIface/\(X.toList==s.toList)=false)/\(fV s).cells = #[.int .i64 0,.int .i64 0,.int .i64 0]/\erV (dN s)=.iface 96 (.int .i64 2)\/E=.nilIface/\(X.toList==s.toList)=true/\(fV s).cells = #[.int .i64 (bAt s 2),.int .i64 (bAt s 3),.int .i64 (bAt s 4-1)]/\erV (dN s)=.nilIface):=by
 have f:mV s=false->(fV s).cells = #[.int .i64 0,.int .i64 0,.int .i64 0]/\erV (dN s)=.iface 96 (.int .i64 2):=λc=>by
  unfold dN fV;rw[c,if_neg (λh=>by cases h.2),if_pos d,if_neg (by decide)];exact⟨rfl,xg⟩
 cases a:(ql s).ok with
 | true =>
  refine⟨_,_,λW=>EJ _ _ _ W a,?_⟩
  cases b:((fO (ql s).bytes).toList==s.toList) with
  | false=>exact .inl ⟨.inr ⟨rfl,b⟩,f (by unfold mV;rw[b,jbg])⟩
  | true =>
   have c:mV s=true:=by unfold mV;rw[b,a];rfl
   refine .inr ⟨rfl,b,?_⟩;unfold dN fV;rw[if_pos d,if_pos c,if_pos ⟨d,c⟩];exact⟨rfl,aN⟩
 | false=>exact⟨_,_,λW=>EI _ _ _ W a,.inl ⟨.inl ⟨_,rfl⟩,f (by unfold mV;rw[a];rfl)⟩⟩
def QO(s:ByteArray)(w:ω)(f:bV s=0) :
  κ prog 148 #[s] w λe m=>e=.returned (.tuple #[.agg (fV s).cells,erV (dN s)])/\β w w m:=by
 have g:=wK s (w.alloc (.cells #[(0:Int),(0:Int),(0:Int)] 67));obtain⟨X,E,k,j⟩:=NJ s f;have i:s.size=16:=yN f;obtain⟨C,M,H,y,o,z⟩:=yu s i;obtain⟨A,u2⟩:=iP s 2;obtain⟨u,u3⟩:=iP s 3;obtain⟨x,u4⟩:=iP s 4;have d:=ah k;have a:=ah j;rw[f,aN] at g;have t:=ah g;generalize (fV s).cells=D at a |-;generalize erV (dN s)=V at a |-;clear g f k j i;generalize bAt s 2=N at y A u2 d a;generalize bAt s 3=G at o u u3 d a;generalize bAt s 4=F at z x u4 d a;go_enter func148,ntmps148
 go_wp2_with fail
 refine t.out.mono ?_;rintro e h ⟨rfl,c⟩;obtain⟨P,K⟩:=nU c;have J:w.heap.size<h.heap.size:=by have:=c.size;simp at this;omega
 go_wp2
 go_region
 go_wp2_with fail
 refine(d.out _).mono ?_;rintro e B ⟨rfl,b⟩;obtain⟨L,O⟩:=nU b;have I:h.heap.size<B.heap.size:=by have:=b.size;simp at this;omega
 have q:Hid (β w w _):=below3 c b;have l:=kQ c b 0 _ rfl;have r:=kQ c b 1 _ rfl;have q2:=kQ c b 2 _ rfl;rcases a.out with⟨⟨fl,rfl⟩|⟨rfl,n⟩,rfl,rfl⟩|⟨rfl,n,rfl,rfl⟩
 all_goals
  go_wp2
  exact bodyPost_ret (v:=.tuple #[.agg _,_]) (by simp[results,results148,go_sem,l,r,q2]) rfl ⟨rfl,((q.out.setCell (ja1 _) _).setCell (ja1 _) _).setCell (ja1 _) _⟩
def Gp(s:ByteArray)(w:ω) :
  κ prog 148 #[s] w λe b=>e=.returned (.tuple #[.agg (fV s).cells,erV (dN s)])/\β w w b:=by
 by_cases a:bV s=0
 .exact QO s w a
 .exact QS s w a
def BP{s:ByteArray}(h:bV s≠0):0<bV s:=by
 unfold bV at h |-;omega
def qx{w b a d:ω}{C:Array υ}{t:TypeId}{o:Obj}(g:β (w.alloc (.cells C t)).heap.size (w.alloc (.cells C t)) b)(j:β (b.alloc o).drew.heap.size (b.alloc o).drew a)(h:β a a d)(i:Nat)(v:υ)(f:C[i]?=S v) :
  d.cell? ⟨w.heap.size,i,O⟩=S v:=by
 have c:=kQ g j i v f;rw[h.cell (ja2 a _ c)];exact c
def lW{w a c:ω}{C:Array υ}{t:TypeId}{o:Obj}(b:β (w.alloc (.cells C t)).heap.size (w.alloc (.cells C t)) a)(d:β (a.alloc o).drew.heap.size (a.alloc o).drew c)(i:Nat) :
  c.frozen? ⟨w.heap.size,i,O⟩=false:=by
 have f:=b.size;simp at f
 rw[d.frozen (by simp;omega)]
 show(a.alloc o).frozen? _=_
 rw[jaS _ _ _ (by omega),b.frozen (by simp),frozen_of_row _ _ _ _ _ (heap_alloc_new w _)]
def qy{w a b c:ω}{C:Array υ}{t:TypeId}{o:Obj}(d:β (w.alloc (.cells C t)).heap.size (w.alloc (.cells C t)) a)(f:β (a.alloc o).drew.heap.size (a.alloc o).drew b)(g:β b b c)(i:Nat) :
  c.frozen? ⟨w.heap.size,i,O⟩=false:=by
 have h:=d.size;have j:=f.size;have k:(a.alloc o).drew.heap.size=a.heap.size+1:=by simp
 simp at h
 rw[g.frozen (by show w.heap.size<b.heap.size;omega)]
 exact lW d f i
def lS{a b:ω}{C:Array υ}{t:TypeId}(c:β (a.alloc (.cells C t)).drew.heap.size (a.alloc (.cells C t)).drew b)(i:Nat)(v:υ)(d:C[i]?=S v):b.cell? ⟨a.heap.size,i,O⟩=S v:=by
 rw[c.cell (by simp)]
 simp_all
def pV{b a d:ω}{C:Array υ}{t:TypeId}(h:β (b.alloc (.cells C t)).drew.heap.size (b.alloc (.cells C t)).drew a)(g:β a a d)(i:Nat)(v:υ)(f:C[i]?=S v):d.cell? ⟨b.heap.size,i,O⟩=S v:=by
 have c:=lS h i v f;rw[g.cell (ja2 a _ c)];exact c
def Df{w a b f:ω}{o c:Obj}(d:β (w.alloc o).heap.size (w.alloc o) a)(g:β (a.alloc c).drew.heap.size (a.alloc c).drew b)(h:β b b f):β w w f :=
 (below3 d g).trans (h.mono (below3 d g).size)
def Rx(s:ByteArray)(w:ω)(a:bV s≠0) :
  κ prog 154 #[s] w λe i=>e=.returned (.tuple #[.agg (fV s).cells,dN s])/\β w w i:=by
 have c:=xW s (w.alloc (.cells #[(0:Int),(0:Int),(0:Int)] 67));have g:dN s=bV s:=by unfold dN;rw[if_neg a]
 have k:fV s=HV.zero:=by unfold fV;rw[if_neg (λh=>a h.1)]
 have d:=BP a;rw[g,k];generalize bV s=f at c d;go_enter func154,ntmps154
 go_wp2_with fail
 refine cEq c λm b=>?_
 obtain⟨j,l⟩:=nU b;go_wp2
 exact bodyPost_ret (v:=.tuple #[.agg #[(0:Int),(0:Int),(0:Int)],f]) (by simp[results,results154,go_sem,j]) rfl ⟨rfl,((((((ja0 _ _).alloc (ja1 _) _).trans (b.mono (by simp))).setCell (by simp) _).setCell (by simp) _).setCell (by simp) _)⟩
def Ry(s:ByteArray)(d:bV s=0):∃ F X,(∀ W:ω,κ prog 33 #[.agg #[bAt s 2,bAt s 3,(bAt s 4-1:Int)]] W λe c=>e=.returned (.int .i64 F)/\β W W c) /\
  (0<F/\(fV s).cells = #[.int .i64 0,.int .i64 0,.int .i64 0]/\dN s=2\/F=0/\(∀ W:ω,κ prog 111 #[.agg #[bAt s 2,bAt s 3,(bAt s 4-1:Int)]] W λe c=>e=.returned (.string X)/\β W W c)/\((X.toList==s.toList)=false/\(fV s).cells = #[.int .i64 0,.int .i64 0,.int .i64 0]/\dN s=2\/(X.toList==s.toList)=true/\(fV s).cells = #[.int .i64 (bAt s 2),.int .i64 (bAt s 3),.int .i64 (bAt s 4-1)]/\dN s=0)):=by
 have g:mV s=false->(fV s).cells = #[.int .i64 0,.int .i64 0,.int .i64 0]/\dN s=2:=λb=>by
  unfold dN fV;rw[b,if_neg (λh=>by cases h.2),if_pos d,if_neg (by decide)];exact⟨rfl,rfl⟩
 refine⟨_,fO (ql s).bytes,λW=>o8 _ _ _ W,?_⟩
 cases a:(ql s).ok with
 | true =>
  refine .inr ⟨if_pos a,λW=>Ar _ _ _ W a,?_⟩
  cases f:((fO (ql s).bytes).toList==s.toList) with
  | false=>exact .inl ⟨rfl,g (by unfold mV;rw[f,jbg])⟩
  | true =>
   have b:mV s=true:=by unfold mV;rw[f,a];rfl
   refine .inr ⟨rfl,?_⟩;unfold dN fV;rw[if_pos d,if_pos b,if_pos ⟨d,b⟩];exact⟨rfl,rfl⟩
 | false=>exact .inl ⟨by rw[show HV.fault ⟨bAt s 2,bAt s 3,bAt s 4-1⟩=1 from if_neg (by rw[show HV.ok ⟨bAt s 2,bAt s 3,bAt s 4-1⟩=false from a];decide)];decide,g (by unfold mV;rw[a];rfl)⟩
def Rw(s:ByteArray)(w:ω)(g:bV s=0) :
  κ prog 154 #[s] w λe t=>e=.returned (.tuple #[.agg (fV s).cells,dN s])/\β w w t:=by
 have k:=xW s (w.alloc (.cells #[(0:Int),(0:Int),(0:Int)] 67));obtain⟨F,X,o,n⟩:=Ry s g;have m:s.size=16:=yN g;obtain⟨M,U,Q,H,y,I⟩:=yu s m;obtain⟨K,u2⟩:=iP s 2;obtain⟨C,u3⟩:=iP s 3;obtain⟨G,u4⟩:=iP s 4;have f:=ah o;have d:=ah n;rw[g] at k;have B:=ah k;generalize (fV s).cells=D at d |-;generalize dN s=V at d |-;clear k g o n m;generalize bAt s 2=W at H K u2 f d;generalize bAt s 3=P at y C u3 f d;generalize bAt s 4=O at I G u4 f d;go_enter func154,ntmps154
 go_wp2_with fail
 refine B.out.mono ?_;rintro e r ⟨rfl,b⟩;obtain⟨R,T⟩:=nU b;have S:w.heap.size<r.heap.size:=by have:=b.size;simp at this;omega
 go_wp2
 go_region
 go_wp2_with fail
 refine(f.out _).mono ?_;rintro e Y ⟨rfl,a⟩;have l:=lS a 0 _ rfl;have r1:=lS a 1 _ rfl;have r2:=lS a 2 _ rfl;rcases d.out with⟨E,rfl,rfl⟩|⟨rfl,q,hd⟩
 .have hd:decide (0<F)=true:=by simpa using E
  have h:=kQ b a 0 _ rfl;have z:=lW b a 0;have j:=kQ b a 1 _ rfl;have A:=lW b a 1;have q2:=kQ b a 2 _ rfl;have J:=lW b a 2;have i:Hid (β w w _):=below3 b a;go_wp2
  exact bodyPost_ret (v:=.tuple #[.agg _,_]) (by simp[results,results154,go_sem,h,j,q2]) rfl ⟨rfl,((i.out.setCell (ja1 _) _).setCell (ja1 _) _).setCell (ja1 _) _⟩
 .have u:=ah q
  have L:=ah hd;clear q hd;go_wp2_with fail
  clear l r1 r2;refine(u.out _).mono ?_;rintro e N ⟨rfl,c⟩;have l:=pV a c 0 _ rfl;have h:=qx b a c 0 _ rfl;have z:=qy b a c 0;have r1:=pV a c 1 _ rfl;have j:=qx b a c 1 _ rfl;have A:=qy b a c 1;have r2:=pV a c 2 _ rfl;have q2:=qx b a c 2 _ rfl;have J:=qy b a c 2;have i:Hid (β w w _):=Df b a c;rcases L.out with⟨x,rfl,rfl⟩|⟨x,rfl,rfl⟩
  all_goals
   go_wp2
   exact bodyPost_ret (v:=.tuple #[.agg _,_]) (by simp[results,results154,go_sem,h,j,q2]) rfl ⟨rfl,((i.out.setCell (ja1 _) _).setCell (ja1 _) _).setCell (ja1 _) _⟩
def Gu(s:ByteArray)(w:ω) :
  κ prog 154 #[s] w λe b=>e=.returned (.tuple #[.agg (fV s).cells,dN s])/\β w w b:=by
 by_cases a:bV s=0
 .exact Rw s w a
 .exact Rx s w a
def pq{a b:Int}(h:a≠b):(a==b)=false/\(a != b)=true:=by simp[h]
def rG{a b:Int}(h:a=b):(a==b)=true/\(a != b)=false:=by simp[h]
def bI(k p a:Int):Bool:=decide ((k=2/\0<=p/\p<a)\/((k=0\/k=1)/\p=0))
def kN{k p n:Int}(h:(k=2/\0<=p/\p<n)\/((k=0\/k=1)/\p=0)):bI k p n=true:=decide_eq_true h
def zS{k p n:Int}(h:¬((k=2/\0<=p/\p<n)\/((k=0\/k=1)/\p=0))):bI k p n=false:=decide_eq_false h
def jh{k p n:Int}(h:bI k p n=true):(k=2/\0<=p/\p<n)\/((k=0\/k=1)/\p=0):=of_decide_eq_true h
def LY{k p n:Int}(h:bI k p n=false):¬((k=2/\0<=p/\p<n)\/((k=0\/k=1)/\p=0)):=of_decide_eq_false h
def tX(k p:Int)(w:ω) :
  κ prog 229 #[.agg #[k,p]] w λe g=>e=.returned (.bool (bI k p 40))/\β w w g:=by
 have c:β w w (w.alloc (.cells #[k,p] 168)):=(ja0 _ _).alloc (ja1 _) _;by_cases b:k=0
 .have a:Hid (bI k p 40=(p==0)):=by
   unfold Hid;rw[jaD,beq_iff_eq];exact⟨λh=>by have:=jh h;omega,λh=>kN (.inr ⟨.inl b,h⟩)⟩
  obtain⟨l,v2⟩:=rG b;clear b;go_enter func229,ntmps229
  go_wp2
  go_ret
  exact⟨nZ a.out.symm,c⟩
 .by_cases d:k=1
  .have a:Hid (bI k p 40=(p==0)):=by
    unfold Hid;rw[jaD,beq_iff_eq];exact⟨λh=>by have:=jh h;omega,λh=>kN (.inr ⟨.inr d,h⟩)⟩
   obtain⟨i,m⟩:=rG d;clear b d;go_enter func229,ntmps229
   go_wp2
   go_ret
   exact⟨nZ a.out.symm,c⟩
  .by_cases f:k=2
   .have a:Hid (bI k p 40=inB p 0 39):=by
     unfold Hid;rw[jaD];exact⟨λh=>qp (by have:=jh h;omega),λh=>kN (.inl ⟨f,by have:=of_decide_eq_true h;omega⟩)⟩
    obtain⟨n,j⟩:=rG f;clear b d f;go_enter func229,ntmps229
    go_wp2_with (go_at_call 96;refine cEq (lI _ _ _ _) λg rfl=>?_)
    go_ret
    exact⟨nZ a.out.symm,c⟩
   .have a:Hid (bI k p 40=false):=zS (by omega)
    go_enter func229,ntmps229
    go_wp2
    go_ret
    exact⟨nZ a.out.symm,c⟩
def Eh(k p n:Int)(w:ω) :
  κ prog 178 #[.agg #[k,p],n] w λe i=>e=.returned (.bool (bI k p n))/\β w w i:=by
 have d:β w w (w.alloc (.cells #[k,p] 168)):=(ja0 _ _).alloc (ja1 _) _;by_cases b:k=2
 .obtain⟨r,o⟩:=rG b
  by_cases f:0<=p
  .have a:Hid (bI k p n=decide (p<n)):=by
    unfold Hid;rw[jaD,decide_eq_true_eq];exact⟨λh=>by have:=jh h;omega,λh=>kN (.inl ⟨b,f,h⟩)⟩
   have j:decide (0<=p)=true:=decide_eq_true f;clear b;go_enter func178,ntmps178
   go_wp2
   go_ret
   exact⟨nZ a.out.symm,d⟩
  .have a:Hid (bI k p n=false):=zS (by omega)
   have j:decide (0<=p)=false:=decide_eq_false f;clear b;go_enter func178,ntmps178
   go_wp2
   go_ret
   exact⟨nZ a.out.symm,d⟩
 .by_cases c:k=0
  .have a:Hid (bI k p n=(p==0)):=by
    unfold Hid;rw[jaD,beq_iff_eq];exact⟨λh=>by have:=jh h;omega,λh=>kN (.inr ⟨.inl c,h⟩)⟩
   obtain⟨l,v2⟩:=rG c;clear c b;go_enter func178,ntmps178
   go_wp2
   go_ret
   exact⟨nZ a.out.symm,d⟩
  .obtain⟨l,v2⟩:=pq c
   by_cases g:k=1
   .have a:Hid (bI k p n=(p==0)):=by
     unfold Hid;rw[jaD,beq_iff_eq];exact⟨λh=>by have:=jh h;omega,λh=>kN (.inr ⟨.inr g,h⟩)⟩
    obtain⟨m,q⟩:=rG g;clear c g b;go_enter func178,ntmps178
    go_wp2
    go_ret
    exact⟨nZ a.out.symm,d⟩
   .have a:Hid (bI k p n=false):=zS (by omega)
    go_enter func178,ntmps178
    go_wp2
    go_ret
    exact⟨nZ a.out.symm,d⟩
def ay(n:Nat):Nat:=(n+7) / 8
def qL(n:Nat)(w:ω)(h:n<=50) :
  κ prog 101 #[(n:Int)] w λe a=>e=.returned (ay n:Int)/\a=w:=by
 go_enter func101,ntmps101
 go_wp2
 go_ret
 exact⟨qH (by unfold ay;omega),rfl⟩
def pz(n:Nat)(w:ω)(h:n<=50) :
  κ prog 107 #[(n:Int)] w λe f=>e=.returned (ay n:Int)/\f=w:=by
 go_enter func107,ntmps107
 go_wp2
 go_loop [3] (λi=>∃ k:Nat,k<=ay n/\i=.int .i64 k) (λi=>ay n-(intOf i).toNat)
 case atStart=>exact⟨0,ja6 _,rfl⟩
 case round =>
  obtain⟨k,c,rfl⟩:=hrel;by_cases a:k<ay n
  .have g:8*k<n:=by unfold ay at a;omega
   go_wp2
   go_round
   case rel=>exact⟨k+1,by omega,by go_num⟩
   case measure=>simp[intOf];omega
  .have g:n<=8*k:=by unfold ay at a;omega
   have j:k<=10:=by unfold ay at c;omega
   have b:k=ay n:=by omega
   have d:Hid _:=b;clear b c a;go_wp2
   go_ret
   exact⟨qH (by rw[d.out]),rfl⟩
def lK(w:ω)(c:Option Addr)(len:Nat)(ts:List (Int × Int)):Prop :=
 ts.length=len/\∀ k,k<len->∃ b a,c=S ⟨b,a,O⟩/\w.cell? ⟨b,a+k*2,O⟩=S (.int .i64 (ts.getD k (0,0)).1)/\w.cell? ⟨b,a+k*2+1,O⟩=S (.int .i64 (ts.getD k (0,0)).2)
def lK.below{w a:ω}{f:Option Addr}{len:Nat}{ts:List (Int × Int)}(h:lK w f len ts)(g:β w w a):lK a f len ts:=by
 refine⟨h.1,λk i=>?_⟩
 obtain⟨b,j,e,d,c⟩:=h.2 k i;exact⟨b,j,e,by rw[g.cell (ja2 w _ d)];exact d,by rw[g.cell (ja2 w _ c)];exact c⟩
def jG(ts:List (Int × Int))(r k:Nat):List Int:=(List.range 16).map λj=>if j / 2<k then (if j % 2=0 then (ts.getD (r*8+j / 2) (0,0)).1 else (ts.getD (r*8+j / 2) (0,0)).2) else 0
def BH(ts:List (Int × Int))(r k:Nat):(jG ts r k).length=16:=by simp[jG]
def G5(ts:List (Int × Int))(r:Nat):jG ts r 0=List.replicate 16 0:=by
 simp[jG,List.map_const']
def GZ(ts:List (Int × Int))(r k:Nat):jG ts r (k+1)=((jG ts r k).set (k*2) (ts.getD (r*8+k) (0,0)).1).set (k*2+1) (ts.getD (r*8+k) (0,0)).2:=by
 apply jbB
 intro j;by_cases b:j<16
 .rw[jbF,jbF]
  by_cases f:k*2+1=j
  .have a:j / 2=k:=by omega
   have c:¬j % 2=0:=by omega
   simp[jG,b,f,a,c]
  .rw[if_neg f]
   by_cases d:k*2=j
   .have a:j / 2=k:=by omega
    have c:j % 2=0:=by omega
    simp[jG,b,d,a,c]
   .rw[if_neg d]
    have a:j / 2<k+1↔j / 2<k:=by omega
    simp[jG,b,a]
 .rw[jaf (by rw[BH];omega),jaf (by rw[jah,jah,BH];omega)]
def SI(ts:List (Int × Int))(r k:Nat)(h:ts.length<=r*8+k):jG ts r k=jG ts r 8:=by
 apply jbv
 intro j b;have c:=List.mem_range.1 b;have a:j / 2<8:=by omega
 rw[if_pos a];by_cases e:j / 2<k
 .rw[if_pos e]
 .have:ts.getD (r*8+j / 2) (0,0)=(0,0):=by
   rw[ja5,jaf (by omega)];rfl
  simp_all
def rowOk(ts:List (Int × Int))(r:Nat):Bool:=(List.range 8).all λi=>bI (ts.getD (r*8+i) (0,0)).1 (ts.getD (r*8+i) (0,0)).2 40
def qJ(ts:List (Int × Int))(row:Int):Bool:=decide (ts.length<=32/\0<=row/\row<ay ts.length)
def gV(ts:List (Int × Int))(row:Int):Int:=if qJ ts row=true then (if rowOk ts row.toNat=true then 0 else 2) else 1
def eP(ts:List (Int × Int))(row:Int):ByteArray:=if gV ts row=0 then strOfNums (jG ts row.toNat 8) else ⟨#[]⟩
def GX{ts:List (Int × Int)}{r i:Nat}(a:i<8)(h:bI (ts.getD (r*8+i) (0,0)).1 (ts.getD (r*8+i) (0,0)).2 40=false):rowOk ts r=false:=by
 unfold rowOk;rw[List.all_eq_false];exact⟨i,List.mem_range.2 a,by rw[h];decide⟩
def BG{ts:List (Int × Int)}{r k:Nat}(b:ts.length<=r*8+k\/8<=k)(h:∀ i,i<k->bI (ts.getD (r*8+i) (0,0)).1 (ts.getD (r*8+i) (0,0)).2 40=true):rowOk ts r=true:=by
 unfold rowOk;rw[List.all_eq_true];intro i a;have c:=List.mem_range.1 a;by_cases e:i<k
 .exact h i e
 .have:ts.getD (r*8+i) (0,0)=(0,0):=by
   rw[ja5,jaf (by omega)];rfl
  rw[this];decide
structure jI(w:ω)(N:Nat)(bs:List Int)(wr:ω):Prop where
 blk:wr.heap[N]?=S (.cells (byV bs).toArray 174 (0,0))
 bel:β w w wr
 len:bs.length=16
 new:w.heap.size<=N
def jI.cell{w wr:ω}{N:Nat}{a:List Int}(h:jI w N a wr)(j:Nat)(b:j<16):wr.cell? ⟨N,j,O⟩=S (.int .u8 (a.getD j 0)):=by
 rw[cell_of_row _ _ _ _ _ _ h.blk,jaN];exact sU a j (by rw[h.len];exact b)
def jI.frozen{w wr:ω}{N:Nat}{a:List Int}(h:jI w N a wr)(j:Nat):wr.frozen? ⟨N,j,O⟩=false:=frozen_of_row _ _ _ _ _ h.blk
def lY{w:ω}{k:Nat}{o:Obj}(h:w.heap[k]?=S o):k<w.heap.size:=by
 rcases jaq k _ with a|a
 .exact a
 .simp_all
def jI.below{w wr a:ω}{N:Nat}{b:List Int}(h:jI w N b wr)(c:β wr wr a):jI w N b a :=
 ⟨by rw[c.block N (lY h.blk)];exact h.blk,h.bel.trans (c.mono h.bel.size),h.len,h.new⟩
theorem jI.set{w wr:ω}{N:Nat}{a:List Int}(h:jI w N a wr)(j:Nat)(v:Int):jI w N (a.set j v) (wr.setCell ⟨N,j,O⟩ (.int .u8 v)):=by
 refine⟨?_,h.bel.setCell h.new _,by rw[jah];exact h.len,h.new⟩
 rw[heap_setCell_same wr N j _ _ _ h.blk];simp[byV,List.map_set]
def jI.start(w:ω):jI w w.heap.size (List.replicate 16 0) (w.alloc (.cells #[.int .u8 0,.int .u8 0,.int .u8 0,.int .u8 0,.int .u8 0,.int .u8 0,.int .u8 0,.int .u8 0,.int .u8 0,.int .u8 0,.int .u8 0,.int .u8 0,.int .u8 0,.int .u8 0,.int .u8 0,.int .u8 0] 174)) :=
 ⟨heap_alloc_new w _,(ja0 _ _).alloc (ja1 _) _,by simp,ja1 _⟩
def jI.conv{w wr:ω}{N:Nat}{a:List Int}(h:jI w N a wr):(convert 185 9 (.slice (S ⟨N,0,O⟩) 16 16)).run prog wr=.ok (.string (strOfNums a)) wr :=
 run_convert_bytes_arg  wr 185 5 underlying185 underlying5 N 0 16 16 a h.len (λi b=>by rw[jan];exact h.cell i b) 9 underlying9
def SL(c:Option Addr)(len cap:Nat)(ts:List (Int × Int))(row:Int)(w:ω)(i:lK w c len ts)(l:len<=50)(b:qJ ts row=false) :
  κ prog 174 #[.slice c len cap,row] w λe a=>e=.returned (.tuple #[.string (eP ts row),erV (gV ts row)])/\β w w a:=by
 have d:gV ts row=1:=by unfold gV;rw[if_neg (by rw[b];decide)]
 have h:eP ts row=⟨#[]⟩:=by unfold eP;rw[d,if_neg (by decide)]
 rw[h,d,eu];have g:=of_decide_eq_false b;rw[i.1] at g;by_cases k:32<len
 .have g1:decide (32<(len:Int))=true:=by simp;omega
  go_enter func174,ntmps174
  go_wp2
  go_ret2
  exact⟨rfl,ja0 _ _⟩
 .have g1:decide (32<(len:Int))=false:=by simp;omega
  have g2:inB row 0 ((ay len:Int)-1)=false:=xC (by omega)
  have g3:ay len<=7:=by unfold ay;omega
  have f:=ah (qL len w (by omega))
  generalize ay len=j at g2 g3 f;go_enter func174,ntmps174
  go_wp2_with (first|(go_at_call 101;refine f.out.mono ?_;rintro e a ⟨rfl,rfl⟩)|(go_at_call 96;refine(lI _ _ _ _).mono ?_;rintro e a ⟨rfl,rfl⟩))
  go_ret2
  exact⟨rfl,ja0 _ _⟩
def row_in(b o len cap:Nat)(ts:List (Int × Int))(r:Nat)(w:ω)(R:lK w (some ⟨b,o,none⟩) len ts)(a4:len<=32)(U:r<ay len)(a3:len<=cap) :
  κ prog 174 #[.slice (some ⟨b,o,none⟩) len cap,(r:Int)] w λe w'=>e=.returned (.tuple #[.string (eP ts r),erV (gV ts r)])/\β w w w':=by
 have a1:qJ ts r=true:=decide_eq_true (by rw[R.1];omega)
 have M:=ah (qL len w (by omega))
 have g1:decide (32<(len:Int))=false:=by simp;omega
 have g2:inB r 0 ((ay len:Int)-1)=true:=qp (by omega)
 have a5:r*8<len:=by unfold ay at U;omega
 have Y:ay len<=4:=by unfold ay;omega
 have E:=ah R;have W:=ah a1;obtain⟨P,V⟩:∃ P,P=ay len:=⟨_,rfl⟩;rw[<- V] at M g2 U Y;clear V
 obtain⟨cnt,a7,a6,a2⟩:∃ cnt:Nat,cnt<=8/\r*8+cnt<=len/\(cnt=8\/r*8+cnt=len):=by
  by_cases h:r*8+8<=len
  .exact⟨8,by omega,h,.inl rfl⟩
  .exact⟨len-r*8,by omega,by omega,.inr (by omega)⟩
 have X:((r:Int)*8+8<=(len:Int)/\((r:Int)*8+8).toNat-r*8=cnt)\/(¬(r:Int)*8+8<=(len:Int)/\len-r*8=cnt):=by omega
 have T:Hid (∀ k,k<cnt->bI (ts.getD (r*8+k) (0,0)).1 (ts.getD (r*8+k) (0,0)).2 40=false->erV (gV ts r)=.iface 96 (.int .i64 2)/\eP ts r=⟨#[]⟩):=λk Q d=>by
  have z:gV ts r=2:=by unfold gV;rw[if_pos W.out,if_neg (by rw[show(r:Int).toNat=r from rfl,GX (by omega) d];decide)]
  exact⟨by rw[z];exact xg,by unfold eP;rw[z,if_neg (by decide)]⟩
 have O:Hid ((∀ k,k<cnt->bI (ts.getD (r*8+k) (0,0)).1 (ts.getD (r*8+k) (0,0)).2 40=true)->erV (gV ts r)=.nilIface/\strOfNums (jG ts r cnt)=eP ts r):=λh=>by
  have z:gV ts r=0:=by unfold gV;rw[if_pos W.out,if_pos (show rowOk ts (r:Int).toNat=true from BG (by rw[E.out.1];omega) h)]
  refine⟨by rw[z];exact aN,?_⟩
  unfold eP;rw[if_pos z];rcases a2 with rfl|h3
  .rfl
  .rw[SI ts r cnt (by rw[E.out.1];omega)];rfl
 rcases X with⟨h8,S⟩|⟨h8,S⟩
 .have e8:cnt=8:=by omega
  subst e8;go_enter func174,ntmps174
  go_wp2_with (first|(go_at_call 101;refine cSt M.out ?_)|(go_at_call 96;refine cSt (lI _ _ _ _) ?_))
  try rw[show r*8+8-r*8=8 by omega]
  go_loopw [34] (λi wr=>∃ k:Nat,k<=8/\i=.int .i64 k/\jI w w.heap.size (jG ts r k) wr/\∀ j,j<k->bI (ts.getD (r*8+j) (0,0)).1 (ts.getD (r*8+j) (0,0)).2 40=true) (λi _=>8-(intOf i).toNat)
  case atStart=>exact⟨0,ja6 _,rfl,by rw[G5];exact jI.start w,λj I=>by omega⟩
  case round =>
   obtain⟨k,Q,rfl,g,D⟩:=hrel;by_cases J:k<8
   .obtain⟨b',a0,e,s,q⟩:=E.out.2 (r*8+k) (by omega)
    cases e
    rw[<- g.bel.cell (ja2 w _ s),show o+(r*8+k)*2=o+r*8*2+k*2 by omega] at s
    rw[<- g.bel.cell (ja2 w _ q),show o+(r*8+k)*2+1=o+r*8*2+k*2+1 by omega] at q
    have v:Hid (jG ts r (k+1)=((jG ts r k).set (k*2) (ts.getD (r*8+k) (0,0)).1).set (k*2+1) (ts.getD (r*8+k) (0,0)).2):=GZ ts r k;have K:=ah (T.out k J);have t:=tX (ts.getD (r*8+k) (0,0)).1 (ts.getD (r*8+k) (0,0)).2 (wr.alloc (.cells #[.int .i64 (ts.getD (r*8+k) (0,0)).1,.int .i64 (ts.getD (r*8+k) (0,0)).2] 168))
    cases d:bI (ts.getD (r*8+k) (0,0)).1 (ts.getD (r*8+k) (0,0)).2 40 with
    | false =>
     have B:=ah (K.out d);have x:=ah g;rw[d] at t;have a:=ah t;generalize (ts.getD (r*8+k) (0,0)).1=c at s a;generalize (ts.getD (r*8+k) (0,0)).2=f at q a;go_wp2_with fail
     refine cEq a.out λu m=>?_
     go_wp2
     go_ret2
     exact⟨by rw[B.out.1,B.out.2];rfl,(x.out.below (((ja0 _ _).alloc (ja1 _) _).trans (m.mono (by simp)))).bel⟩
    | true =>
     have G:Hid (∀ j,j<k+1->bI (ts.getD (r*8+j) (0,0)).1 (ts.getD (r*8+j) (0,0)).2 40=true):=λj I=>by
      by_cases e:j=k
      .rw[e];exact d
      .exact D j (by omega)
     have x:=ah g;have A:=jh d;rw[d] at t;have a:=ah t;generalize (ts.getD (r*8+k) (0,0)).1=c at s a v A;generalize (ts.getD (r*8+k) (0,0)).2=f at q a v A;have k0:0<=c:=by omega
     have l:c<256:=by omega
     have p0:0<=f:=by omega
     have p1:f<256:=by omega
     go_wp2_with fail
     refine cEq a.out λu m=>?_
     have n:=x.out.below (((ja0 _ _).alloc (ja1 _) _).trans (m.mono (by simp)))
     have b0:u.cell? ⟨wr,0,none⟩=some (c:υ):=by rw[m.cell (by simp),cell_of_row _ _ _ _ _ _ (heap_alloc_new wr _)];rfl
     have b1:u.cell? ⟨wr,1,none⟩=some (f:υ):=by rw[m.cell (by simp),cell_of_row _ _ _ _ _ _ (heap_alloc_new wr _)];rfl
     have c0:=n.cell (k*2) (by omega)
     have c1:=n.cell (k*2+1) (by omega)
     have f0:=n.frozen (k*2);have f1:=n.frozen (k*2+1);have i0:(k:Int)*2<16:=by omega
     have i1:(k:Int)*2+1<16:=by omega
     have L:=ah n;go_wp2
     go_region
     go_wp2
     go_roundw
     case rel =>
      have C:=(L.out.set (k*2) c).set (k*2+1) f;rw[<- v.out] at C;have fin:∃ l:Nat,l<=8/\Value.int .i64 ((k:Int)+1)=.int .i64 l/\jI w w.heap.size (jG ts r l) ((u.setCell ⟨w.heap.size,k*2,none⟩ (.int .u8 c)).setCell ⟨w.heap.size,k*2+1,none⟩ (.int .u8 f)).drew/\∀ j,j<l->bI (ts.getD (r*8+j) (0,0)).1 (ts.getD (r*8+j) (0,0)).2 40=true:=⟨k+1,by omega,by go_num,C.below ((ja0 _ _).drew),G.out⟩
      first|exact fin|((repeat apply Exists.intro);exact⟨fin,rfl⟩)
     case measure=>simp[intOf];omega
   .have F:k=8:=by omega
    subst F;have y:=ah (O.out D);have N:=g.conv;have H:=ah g.bel;rw[y.out.2] at N;go_wp2
    go_ret2
    exact⟨by rw[y.out.1];rfl,H.out⟩
 .have Z:=ah S
  go_enter func174,ntmps174
  go_wp2_with (first|(go_at_call 101;refine cSt M.out ?_)|(go_at_call 96;refine cSt (lI _ _ _ _) ?_))
  (first|rw[Z.out]|rw[show(min ((r:Int)*8+8) (len:Int)).toNat-r*8=cnt by omega]);go_loopw [34] (λi wr=>∃ k:Nat,k<=cnt/\i=.int .i64 k/\jI w w.heap.size (jG ts r k) wr/\∀ j,j<k->bI (ts.getD (r*8+j) (0,0)).1 (ts.getD (r*8+j) (0,0)).2 40=true) (λi _=>cnt-(intOf i).toNat)
  case atStart=>exact⟨0,ja6 _,rfl,by rw[G5];exact jI.start w,λj I=>by omega⟩
  case round =>
   obtain⟨k,Q,rfl,g,D⟩:=hrel;by_cases J:k<cnt
   .obtain⟨b',a0,e,s,q⟩:=E.out.2 (r*8+k) (by omega)
    cases e
    rw[<- g.bel.cell (ja2 w _ s),show o+(r*8+k)*2=o+r*8*2+k*2 by omega] at s
    rw[<- g.bel.cell (ja2 w _ q),show o+(r*8+k)*2+1=o+r*8*2+k*2+1 by omega] at q
    have v:Hid (jG ts r (k+1)=((jG ts r k).set (k*2) (ts.getD (r*8+k) (0,0)).1).set (k*2+1) (ts.getD (r*8+k) (0,0)).2):=GZ ts r k;have K:=ah (T.out k J);have t:=tX (ts.getD (r*8+k) (0,0)).1 (ts.getD (r*8+k) (0,0)).2 (wr.alloc (.cells #[.int .i64 (ts.getD (r*8+k) (0,0)).1,.int .i64 (ts.getD (r*8+k) (0,0)).2] 168))
    cases d:bI (ts.getD (r*8+k) (0,0)).1 (ts.getD (r*8+k) (0,0)).2 40 with
    | false =>
     have B:=ah (K.out d);have x:=ah g;rw[d] at t;have a:=ah t;generalize (ts.getD (r*8+k) (0,0)).1=c at s a;generalize (ts.getD (r*8+k) (0,0)).2=f at q a;go_wp2_with fail
     refine cEq a.out λu m=>?_
     go_wp2
     go_ret2
     exact⟨by rw[B.out.1,B.out.2];rfl,(x.out.below (((ja0 _ _).alloc (ja1 _) _).trans (m.mono (by simp)))).bel⟩
    | true =>
     have G:Hid (∀ j,j<k+1->bI (ts.getD (r*8+j) (0,0)).1 (ts.getD (r*8+j) (0,0)).2 40=true):=λj I=>by
      by_cases e:j=k
      .rw[e];exact d
      .exact D j (by omega)
     have x:=ah g;have A:=jh d;rw[d] at t;have a:=ah t;generalize (ts.getD (r*8+k) (0,0)).1=c at s a v A;generalize (ts.getD (r*8+k) (0,0)).2=f at q a v A;have k0:0<=c:=by omega
     have l:c<256:=by omega
     have p0:0<=f:=by omega
     have p1:f<256:=by omega
     go_wp2_with fail
     refine cEq a.out λu m=>?_
     have n:=x.out.below (((ja0 _ _).alloc (ja1 _) _).trans (m.mono (by simp)))
     have b0:u.cell? ⟨wr,0,none⟩=some (c:υ):=by rw[m.cell (by simp),cell_of_row _ _ _ _ _ _ (heap_alloc_new wr _)];rfl
     have b1:u.cell? ⟨wr,1,none⟩=some (f:υ):=by rw[m.cell (by simp),cell_of_row _ _ _ _ _ _ (heap_alloc_new wr _)];rfl
     have c0:=n.cell (k*2) (by omega)
     have c1:=n.cell (k*2+1) (by omega)
     have f0:=n.frozen (k*2);have f1:=n.frozen (k*2+1);have i0:(k:Int)*2<16:=by omega
     have i1:(k:Int)*2+1<16:=by omega
     have L:=ah n;go_wp2
     go_region
     go_wp2
     go_roundw
     case rel =>
      have C:=(L.out.set (k*2) c).set (k*2+1) f;rw[<- v.out] at C;have fin:∃ l:Nat,l<=cnt/\Value.int .i64 ((k:Int)+1)=.int .i64 l/\jI w w.heap.size (jG ts r l) ((u.setCell ⟨w.heap.size,k*2,none⟩ (.int .u8 c)).setCell ⟨w.heap.size,k*2+1,none⟩ (.int .u8 f)).drew/\∀ j,j<l->bI (ts.getD (r*8+j) (0,0)).1 (ts.getD (r*8+j) (0,0)).2 40=true:=⟨k+1,by omega,by go_num,C.below ((ja0 _ _).drew),G.out⟩
      first|exact fin|((repeat apply Exists.intro);exact⟨fin,rfl⟩)
     case measure=>simp[intOf];omega
   .have F:k=cnt:=by omega
    subst F;have y:=ah (O.out D);have N:=g.conv;have H:=ah g.bel;rw[y.out.2] at N;go_wp2
    go_ret2
    exact⟨by rw[y.out.1];rfl,H.out⟩
def SK(d:Option Addr)(len cap:Nat)(ts:List (Int × Int))(row:Int)(w:ω)(c:lK w d len ts)(l:len<=50)(k:len<=cap) :
  κ prog 174 #[.slice d len cap,row] w λe i=>e=.returned (.tuple #[.string (eP ts row),erV (gV ts row)])/\β w w i:=by
 cases f:qJ ts row with
 | false=>exact SL d len cap ts row w c l f
 | true =>
  have a:=of_decide_eq_true f;obtain⟨r,rfl⟩:=Int.eq_ofNat_of_zero_le a.2.1;rw[c.1] at a
  have j:0<len:=by
   rcases Nat.eq_zero_or_pos len with h|h
   .subst h;simp[ay] at a;omega
   .exact h
  obtain⟨b,g,rfl,_⟩:=c.2 0 j;exact row_in b g len cap ts r w c a.1 (by omega) k
