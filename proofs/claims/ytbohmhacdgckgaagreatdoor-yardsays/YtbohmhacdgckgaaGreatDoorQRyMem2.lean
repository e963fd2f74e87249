/- Yards as plain data (J1 to J7): devices, a desk's device, files, a desk, a chain, the last job; what each call makes of them, and its fault's number. -/
import Derived.Test.YtbohmhacdgckgaaGreatDoorQRjN2
set_option linter.all false
set_option maxHeartbeats 1000000
set_option maxRecDepth 100000
namespace Go.Proofs.YtbohmhacdgckgaaGreatDoor
open Go.RowKit renaming Below->β
open Go renaming World->ω, Value->υ
open Option renaming none->O, some->S
open Go.RowKit Go.Maps
attribute [local go_sem ↓] Go.wp_at_zero Go.wp_at_succ
def aP.kv(d:aP):KV:=⟨d.root,d.kind,d.file,d.rate,d.burst⟩
def KV.kd(d:KV):aP:=⟨d.r,d.k,d.f,d.a,d.u⟩
def aj(root:Int):aP:=⟨root,0,-1,0,0⟩
def kX{r:Int}(b:0<=r)(d:r<=4):(aj r).kv.fault=0:=by
 have c:(aj r).kv.bound=true:=decide_eq_true (by simp only[aj,aP.kv];omega)
 have a:(aj r).kv.may=true:=decide_eq_true (.inl ⟨rfl,rfl,rfl,rfl⟩);unfold KV.fault
 simp_all
structure YV where
 dv:Nat->DV
 top:DV
 s:SV
 kd:aP
 l:List Int
 j:Option JV
def YV.dev(y:YV)(i:Nat):DV:=match y.s i with
 | some v=>v.d
 | none=>y.dv i
def YV.busy(y:YV):Bool:=match y.j with
 | none=>false
 | some j=>decide (j.stage<4)
def YV.lV(d:aP):List UInt8:=(fO d.kv.bytes).data.toList
def YV.aA(y:YV)(d:aP):YV:=if y.top.aU=0 then {y with top:=(y.top.put 0 (YV.lV d)).flushed,kd:=d} else {y with top:=y.top.put 0 (YV.lV d)}
def YV.aJ(y:YV):Int:=y.top.aU
def SV.gone(s:SV)(i:Nat):SV:=λj=>if j=i then O else s j
def YV.used(y:YV)(f:Int):Bool:=y.busy&&decide (y.kd.file=f)||y.l.contains f
def nO(n:Nat)(c:Int):Int:=Int.tdiv ((n:Int)-1-(ay c.toNat:Int)) 4
def YV.head(y:YV)(f back:Int):HV:=⟨y.s.gZ y.kd.root,nO (y.dev f.toNat).fl.length (y.s.gZ y.kd.root),back⟩
def YV.eX(y:YV)(f back:Int):Int:=if 0<=f/\f<5 then (if y.used f=true then 5 else crF (y.dev f.toNat) (y.head f back)) else 1
def YV.blank(y:YV)(f back:Int):YV :=
 if 0<=f/\f<5 then (if y.used f=true then y else if crF (y.dev f.toNat) (y.head f back)=0 then {y with s:=y.s.upd f.toNat (crV (y.dev f.toNat) (y.head f back))}
  else {y with s:=y.s.gone f.toNat,dv:=λi=>if i=f.toNat then iQ (y.dev f.toNat) (y.head f back) else y.dv i}) else y
def YV.jP(y:YV)(f:Int):Int:=if y.busy=true then 8 else if y.l.length=4 then 6 else if y.eX f y.kd.root=0 then (y.blank f y.kd.root).aJ else y.eX f y.kd.root
def YV.snap(y:YV)(f:Int):YV:=if y.busy=true\/y.l.length=4 then y else if y.eX f y.kd.root=0 then
  (if (y.blank f y.kd.root).aJ=0 then {(y.blank f y.kd.root).aA (aj f) with l:=f::y.l} else (y.blank f y.kd.root).aA (aj f)) else y.blank f y.kd.root
def iC(j:JV)(fr:Nat):Nat->JV
 | 0=>j
 | k+1=>dW (iC j fr k) (((fr+k) / 4:Nat):Int)
def YV.mark(y:YV)(fr n:Nat):YV:={y with j:=y.j.map λj=>iC j fr n}
def YV.write(y:YV)(fr:Int)(t:ByteArray):YV :=
 if t.size % 16=0/\y.s.aW y.l fr ((t.size / 16:Nat):Int)=0 then ({y with s:=(y.s.put y.l fr t).1}:YV).mark fr.toNat (t.size / 16) else y
def YV.dJ(y:YV)(fr:Int)(t:ByteArray):Int:=if t.size % 16=0/\y.s.aW y.l fr ((t.size / 16:Nat):Int)=0 then (y.s.put y.l fr t).2 else 1
def YV.wipe(y:YV)(fr n:Int):YV:=if y.s.aW y.l fr n=0 then ({y with s:=(y.s.wipe y.l fr n).1}:YV).mark fr.toNat n.toNat else y
def YV.mG(y:YV)(fr n:Int):Int:=if y.s.aW y.l fr n=0 then (y.s.wipe y.l fr n).2 else 1
def YV.flush(y:YV):YV:={y with s:=y.s.gK y.l}
def jH(y:YV)(kind file b a:Int):aP:=⟨y.kd.root,kind,file,b,a⟩
def YV.kU(y:YV)(d:aP):Int:=if y.busy=true then 8 else if d.kind=0 then 1 else if d.kv.fault=0 then newF y.s d else d.kv.fault
def YV.iU(y:YV)(d:aP):Int:=if y.kU d=0 then y.aJ else y.kU d
def YV.start(y:YV)(d:aP):YV:=if y.kU d=0 then (if y.aJ=0 then {y.aA d with j:=S ((gI y.s d).at 1)} else y.aA d) else y
def YV.step(y:YV):YV:=match y.j with
 | none=>y
 | some j=>if 4<=j.stage then y else
  if bW y.s j≠0 then (if (stepJ y.s j).stage=5 then ({y with s:=stepS y.s j,j:=S (stepJ y.s j)}:YV).aA (aj y.kd.root) else {y with s:=stepS y.s j,j:=S (stepJ y.s j)})
  else if y.kd.kind≠2\/(stepJ y.s j).state≠3 then {y with s:=stepS y.s j,j:=S (stepJ y.s j)}
  else if dh (stepS y.s j) (stepJ y.s j)≠0 then ({y with s:=dU (stepS y.s j) (stepJ y.s j),j:=S (eG (stepS y.s j) (stepJ y.s j))}:YV).aA (aj y.kd.root)
  else {({y with s:=dU (stepS y.s j) (stepJ y.s j),l:=((dU (stepS y.s j) (stepJ y.s j)).walk y.kd.root).1,j:=S ((eG (stepS y.s j) (stepJ y.s j)).at 4)}:YV).aA (aj y.kd.root) with kd:=aj y.kd.root}
def YV.bW(y:YV):Int:=match y.j with
 | none=>4
 | some j=>if 4<=j.stage then 4 else if Go.Proofs.YtbohmhacdgckgaaGreatDoor.bW y.s j≠0 then Go.Proofs.YtbohmhacdgckgaaGreatDoor.bW y.s j else if y.kd.kind≠2\/(stepJ y.s j).state≠3 then 0 else dh (stepS y.s j) (stepJ y.s j)
def YV.fE(y:YV):Bool:=match y.j with
 | none=>false
 | some j=>if 4<=j.stage then false else if Go.Proofs.YtbohmhacdgckgaaGreatDoor.bW y.s j≠0 then false else if y.kd.kind≠2\/(stepJ y.s j).state≠3 then Go.Proofs.YtbohmhacdgckgaaGreatDoor.fE y.s j else decide (dh (stepS y.s j) (stepJ y.s j)=0)
def YV.over(y:YV)(root st:Int):YV:=if y.aJ=0 then {y.aA (aj root) with j:=y.j.map λj=>j.at st,l:=(y.s.walk root).1} else y.aA (aj root)
def YV.pivot(y:YV):YV:=match y.j with
 | none=>y
 | some j=>if 4<=j.stage\/y.kd.kind=2 then y else if dh y.s j≠0 then {y with s:=dU y.s j,j:=S (eG y.s j)} else ({y with s:=dU y.s j,j:=S (eG y.s j)}:YV).over y.kd.file 4
def YV.lg(y:YV):Int:=match y.j with
 | none=>4
 | some j=>if 4<=j.stage then 4 else if y.kd.kind=2 then 9 else if dh y.s j≠0 then dh y.s j else y.aJ
def YV.cancel(y:YV):YV:=if y.busy=true then y.over y.kd.root 5 else y
def YV.sV(y:YV):Int:=if y.busy=true then y.aJ else 4
def YV.pause(y:YV)(a:Bool):YV:=if y.busy=true then {y with j:=y.j.map λj=>l9 j a} else y
def YV.iH(y:YV)(a:Bool):Int:=match y.j with
 | none=>4
 | some j=>if 4<=j.stage then 4 else Go.Proofs.YtbohmhacdgckgaaGreatDoor.iH j a
def YV.tick(y:YV)(n:Int):YV:=if y.busy=true then {y with j:=y.j.map λj=>jQ j n} else y
def YV.uy(n:Int):Int:=if S4.inB n 100000=true then 0 else 1
def YV.arm(y:YV)(f n:Int):YV :=
 if -1<=f/\f<5/\0<=n then (if f = -1 then {y with top:=y.top.failing n} else match y.s f.toNat with
  | none=>{y with dv:=λi=>if i=f.toNat then (y.dv i).failing n else y.dv i}
  | some v=>{y with s:=y.s.upd f.toNat {v with d:=v.d.failing n}}) else y
def YV.kW(f n:Int):Int:=if -1<=f/\f<5/\0<=n then 0 else 1
def aK(d:Nat->DV):SV:=λi=>if i<5/\dF (d i)=0 then S (kF (d i)) else O
def ak(t:DV):aP:=(iy (bytesOf (t.seen.getD 0 []))).kd
def jo(d:Nat->DV)(t:DV):Int:=if Go.Proofs.YtbohmhacdgckgaaGreatDoor.aJ (bytesOf (t.seen.getD 0 []))=0 then ((aK d).walk (ak t).root).2 else Go.Proofs.YtbohmhacdgckgaaGreatDoor.aJ (bytesOf (t.seen.getD 0 []))
def SV.back(s:SV)(n:Int):Int:=match s.file n with
 | none=>0
 | some v=>v.h.b
def lF(s:SV)(k:aP):Bool:=decide (k.kind≠0/\¬(k.kind=2/\s.back k.root=k.file)/\newF s k=0)
def jF(d:Nat->DV)(t:DV):YV :=
 ⟨d,t,aK d,if lF (aK d) (ak t)=true then ak t else aj (ak t).root,((aK d).walk (ak t).root).1,if lF (aK d) (ak t)=true then S (gI (aK d) (ak t)) else O⟩
def jY(d:DV)(a:List Bool):DV:=DV.made (dV d.pend a d.fl d.pend.length) d.wr
def YV.left(y:YV)(k:List (List Bool))(i:Nat):DV:=jY (y.dev i) (k.getD i [])
def YV.crash(y:YV)(k:List (List Bool)):YV:=jF (y.left k) (jY y.top [])
def newH(c p:Int):HV:=⟨c,p,-1⟩
def ig(n:Nat):DV:=DV.made (List.replicate n (List.replicate 16 0)) 0
def mY(c p:Int):YV:=⟨λ_=>ig (aQ (newH c p)),ig 1,SV.upd (λ_=>O) 0 (crV (ig (aQ (newH c p))) (newH c p)),aj 0,[0],O⟩
def lG(c p:Int):YV:=(mY c p).aA (aj 0)
abbrev YV.t0(y:YV)(j:JV):YV:={y with s:=dU y.s j,j:=S (eG y.s j)}
abbrev YV.t1(y:YV)(j:JV):YV:={y with s:=stepS y.s j,j:=S (stepJ y.s j)}
abbrev YV.t2(y:YV)(j:JV):YV:={y with s:=dU (stepS y.s j) (stepJ y.s j),j:=S (eG (stepS y.s j) (stepJ y.s j))}
abbrev YV.t3(y:YV)(j:JV):YV:={y with s:=dU (stepS y.s j) (stepJ y.s j),l:=((dU (stepS y.s j) (stepJ y.s j)).walk y.kd.root).1,j:=S (eG (stepS y.s j) (stepJ y.s j))}
abbrev YV.t4(y:YV)(j:JV):YV:={y with s:=dU (stepS y.s j) (stepJ y.s j),l:=((dU (stepS y.s j) (stepJ y.s j)).walk y.kd.root).1,j:=S ((eG (stepS y.s j) (stepJ y.s j)).at 4)}
structure Zj where
 xp:Nat
 a:Option Addr
 cap:Nat
structure Zh where
 ds:Nat->Rh
 tp:Rh
 qs:Nat->Qh
 sp:Nat
 la:Option Addr
 lc:Nat
 jb:Zj
def Zh.fpF(Z:Zh)(s:SV)(i k:Nat):Prop:=match s i with
 | none=>(Z.ds i).fp k
 | some _=>(Z.qs i).fp k
def Zh.dp(Z:Zh)(s:SV)(i:Nat):Nat:=match s i with
 | none=>(Z.ds i).p
 | some _=>(Z.qs i).d.p
def Zh.dH{Z:Zh}{s:SV}{i k:Nat}(h:s i=O):Z.fpF s i k=(Z.ds i).fp k:=by unfold Zh.fpF;rw[h]
def Zh.dX{Z:Zh}{s:SV}{i k:Nat}{v:IV}(h:s i=S v):Z.fpF s i k=(Z.qs i).fp k:=by unfold Zh.fpF;rw[h]
def Zh.dp_none{Z:Zh}{s:SV}{i:Nat}(h:s i=O):Z.dp s i=(Z.ds i).p:=by unfold Zh.dp;rw[h]
def Zh.kY{Z:Zh}{s:SV}{i:Nat}{v:IV}(h:s i=S v):Z.dp s i=(Z.qs i).d.p:=by unfold Zh.dp;rw[h]
def Zj.fp(b:Zj)(j:Option JV)(k:Nat):Prop:=j≠O/\k=b.xp
def fpZ(a:Nat)(Z:Zh)(y:YV)(k:Nat):Prop:=k=a\/k=Z.sp\/(∃ i,i<5/\Z.fpF y.s i k)\/Z.tp.fp k\/Z.jb.fp y.j k
def qY(b:Zj):Option JV->υ
 | none=>.pointer O
 | some _=>.pointer (S ⟨b.xp,0,O⟩)
structure jJ(w:ω)(yp:Nat)(Z:Zh)(s:SV)(d:aP)(n:Nat)(jv:υ):Prop where
 is:∃ cur,w.heap[yp]?=S (.cells cur 92 (0,0))/\(∀ i,i<5->cur[i]?=S (Z.dp s i:υ))/\cur[5]?=S (Z.tp.p:υ)/\cur[6]?=S (Z.sp:υ) /\
  cur[7]?=S (d.root:υ)/\cur[8]?=S (d.kind:υ)/\cur[9]?=S (d.file:υ)/\cur[10]?=S (d.rate:υ)/\cur[11]?=S (d.burst:υ)/\cur[12]?=S (.slice Z.la n Z.lc)/\cur[13]?=S jv
structure aC(w:ω)(yp:Nat)(Z:Zh)(y:YV):Prop where
 blk:jJ w yp Z y.s y.kd y.l.length (qY Z.jb y.j)
 shf:w.heap[Z.sp]?=S (.cells #[bU (Z.qs 0) (y.s 0),bU (Z.qs 1) (y.s 1),bU (Z.qs 2) (y.s 2),bU (Z.qs 3) (y.s 3),bU (Z.qs 4) (y.s 4)] 87 (0,0))
 img:∀ i v,i<5->y.s i=S v->aS Gd.no w (Z.qs i) v
 dev:∀ i,i<5->y.s i=O->bZ Gd.no w (Z.ds i) (y.dv i)
 top:bZ Gd.no w Z.tp y.top
 apart:∀ i j,i<5->j<5->i≠j->∀ k,Z.fpF y.s i k->¬Z.fpF y.s j k
 apTop:∀ i,i<5->∀ k,Z.tp.fp k->¬Z.fpF y.s i k
 list:Nums w Z.la y.l/\(∀ g o,Z.la=S ⟨g,o,O⟩->g<w.heap.size)/\Apart Z.la (fpZ yp Z y)
 job:∀ j,y.j=S j->bK w Z.jb.xp Z.sp Z.jb.a Z.jb.cap j j.state/\Nums w Z.jb.a j.l/\j.l≠[]/\j.l.length<=Z.jb.cap/\Apart Z.jb.a (fpZ yp Z y)
def jJ.lt{w:ω}{a n:Nat}{Z:Zh}{s:SV}{d:aP}{f:υ}(h:jJ w a Z s d n f):a<w.heap.size:=by
 obtain⟨c,b,_⟩:=h.is;exact lt_of_some b
def jJ.keep{w b:ω}{a n:Nat}{Z:Zh}{s:SV}{d:aP}{c:υ}(h:jJ w a Z s d n c)(e:b.heap[a]?=w.heap[a]?):jJ b a Z s d n c:=⟨by rw[e];exact h.is⟩
def jJ.cells{w:ω}{a n:Nat}{Z:Zh}{s:SV}{d:aP}{g:υ}(h:jJ w a Z s d n g) :
  (∀ i,i<5->w.cell? ⟨a,i,O⟩=S (Z.dp s i:υ))/\w.cell? ⟨a,5,O⟩=S (Z.tp.p:υ)/\w.cell? ⟨a,6,O⟩=S (Z.sp:υ)/\w.cell? ⟨a,7,O⟩=S (d.root:υ)/\w.cell? ⟨a,8,O⟩=S (d.kind:υ)/\w.cell? ⟨a,9,O⟩=S (d.file:υ)/\w.cell? ⟨a,10,O⟩=S (d.rate:υ)/\w.cell? ⟨a,11,O⟩=S (d.burst:υ)/\w.cell? ⟨a,12,O⟩=S (.slice Z.la n Z.lc)/\w.cell? ⟨a,13,O⟩=S g/\∀ i,w.frozen? ⟨a,i,O⟩=false:=by
 obtain⟨c,f,k,l,t,v,o,u,j,q,r,x⟩:=h.is;have b:∀ i,w.cell? _=c[i]?:=λi=>cell_of_row w a _ _ _ _ f
 exact⟨λi m=>(b i).trans (k i m),(b 5).trans l,(b 6).trans t,(b 7).trans v,(b 8).trans o,(b 9).trans u,(b 10).trans j,(b 11).trans q,(b 12).trans r,(b 13).trans x,λi=>frozen_of_row w a i _ _ f⟩
def bZ.nY{B:Gd}{w:ω}{h:Rh}{d:DV}(hd:bZ B w h d){k:Nat}{a:Array υ}{t:TypeId}(i:w.heap[k]?=S (.cells a t (0,0)))(g:¬(t=127\/t=9\/t=3\/t=146\/t=168)):¬h.fp k:=λb=>by
 obtain⟨f,t2,c,p⟩:=hd.kinds k b
 simp_all
def aC.kZ{w:ω}{d:Nat}{Z:Zh}{y:YV}(h:aC w d Z y){i k:Nat}(c:i<5)(a:Z.fpF y.s i k):k<w.heap.size:=by
 cases b:y.s i with
 | none=>rw[Zh.dH b] at a;exact((h.dev i c b).lt k a).2
 | some v=>rw[Zh.dX b] at a;exact(h.img i v c b).gQ k a
def aC.qB{w:ω}{g:Nat}{Z:Zh}{y:YV}(h:aC w g Z y){i k:Nat}(b:i<5){f:Array υ}{t:TypeId}(d:w.heap[k]?=S (.cells f t (0,0)))(c:¬(t=127\/t=9\/t=3\/t=146\/t=168)):¬Z.fpF y.s i k:=by
 cases a:y.s i with
 | none=>rw[Zh.dH a];exact(h.dev i b a).nY d c
 | some v=>rw[Zh.dX a];exact(h.img i v b a).uX d c
def aC.xG{w:ω}{b:Nat}{Z:Zh}{y:YV}(h:aC w b Z y)(c:y.j≠O):∃ a,w.heap[Z.jb.xp]?=S (.cells a 198 (0,0)):=by
 cases e:y.j with
 | none=>simp_all
 | some j =>
  obtain⟨a,d,_⟩:=(h.job j e).1.blk
  simp_all
def aC.fF{w:ω}{b:Nat}{Z:Zh}{y:YV}(h:aC w b Z y){k:Nat}(a:fpZ b Z y k):k<w.heap.size:=by
 rcases a with rfl|rfl|⟨i,f,a⟩|a|⟨c,rfl⟩
 .exact h.blk.lt
 .exact lt_of_some h.shf
 .exact h.kZ f a
 .exact(h.top.lt k a).2
 .obtain⟨g,d⟩:=h.xG c
  exact lt_of_some d
def aC.kH{w:ω}{a:Nat}{Z:Zh}{y:YV}(h:aC w a Z y):a≠Z.sp/\(∀ i,i<5->¬Z.fpF y.s i a)/\¬Z.tp.fp a/\¬Z.jb.fp y.j a:=by
 obtain⟨c,b,_⟩:=h.blk.is;refine⟨λe=>?_,λi g=>h.qB g b (by decide),h.top.nY b (by decide),λ⟨d,l⟩=>?_⟩
 .have f:=h.shf
  simp_all
 .obtain⟨k,f⟩:=h.xG d
  simp_all
def aC.oN{w:ω}{b:Nat}{Z:Zh}{y:YV}(h:aC w b Z y):(∀ i,i<5->¬Z.fpF y.s i Z.sp)/\¬Z.tp.fp Z.sp/\¬Z.jb.fp y.j Z.sp:=by
 refine⟨λi c=>h.qB c h.shf (by decide),h.top.nY h.shf (by decide),λ⟨a,f⟩=>?_⟩
 obtain⟨d,g⟩:=h.xG a;have k:=h.shf
 simp_all
def aC.kC{w:ω}{d:Nat}{Z:Zh}{y:YV}(h:aC w d Z y){k:Nat}(b:Z.jb.fp y.j k):(∀ i,i<5->¬Z.fpF y.s i k)/\¬Z.tp.fp k:=by
 obtain⟨c,rfl⟩:=b;obtain⟨g,a⟩:=h.xG c;exact⟨λi f=>h.qB f a (by decide),h.top.nY a (by decide)⟩
def aC.inS{w:ω}{d:Nat}{Z:Zh}{y:YV}(g:aC w d Z y){k:Nat}(b:fpQ Z.qs y.s k):∃ i,i<5/\Z.fpF y.s i k:=by
 obtain⟨i,f,j,a⟩:=b
 cases c:y.s i with
 | none=>simp_all
 | some v=>exact⟨i,f,by rw[Zh.dX c];exact a⟩
def aC.shelf{w:ω}{b m:Nat}{Z:Zh}{y:YV}(h:aC w b Z y)(g:y.s.ok m):bG w Z.sp Z.qs y.s m:=by
 refine⟨h.shf,h.img,g,λi j f n d q r k l a=>?_⟩
 cases o:y.s i with
 | none=>simp_all
 | some v =>
  cases c:y.s j with
  | none=>simp_all
  | some u=>exact h.apart i j f n d k (by rw[Zh.dX o];exact l) (by rw[Zh.dX c];exact a)
def aC.rj{w:ω}{d m C:Nat}{Z:Zh}{y:YV}{j:JV}(h:aC w d Z y)(i:y.s.ok m)(k:y.j=S j)(f:JOk y.s C j):RJ w Z.sp Z.jb.xp Z.jb.a Z.jb.cap Z.qs y.s m C j j.state:=by
 obtain⟨n,c,r,l,q⟩:=h.job j k;refine⟨h.shelf i,n,c,λg o e b=>q g o e ?_,f,l⟩
 rcases b with b|b
 .exact .inr (.inr (.inl (h.inS b)))
 .exact .inr (.inr (.inr (.inr ⟨(by simp_all),b⟩)))
def OV{w a:ω}{g:Nat}(e:a.heap[g]?=w.heap[g]?)(h:g<w.heap.size):g<a.heap.size:=by
 rcases jaq g _ with q|q
 .exact q
 .simp_all
def Apart.AU{S b:Nat->Prop}{w d:ω}{a:Option Addr}(f:Apart a S)(i:∀ g o,a=some ⟨g,o,O⟩->g<w.heap.size)(c:Moved S w b d):Apart a b:=λg o e=>c.out (i g o e) (f g o e)
theorem aC.keep{w l:ω}{m:Nat}{Z:Zh}{y:YV}(h:aC w m Z y)(b:∀ k,fpZ m Z y k->l.heap[k]?=w.heap[k]?)(n:∀ g o,Z.la=S ⟨g,o,O⟩->g<w.heap.size->l.heap[g]?=w.heap[g]?)(x:∀ g o,Z.jb.a=S ⟨g,o,O⟩->g<w.heap.size->l.heap[g]?=w.heap[g]?):aC l m Z y :=
 ⟨h.blk.keep (b _ (.inl rfl)),(b _ (.inr (.inl rfl))).trans h.shf,λi v d f=>(h.img i v d f).jm λk c=>b k (.inr (.inr (.inl ⟨i,d,by rw[Zh.dX f];exact c⟩))),λi d f=>(h.dev i d f).keep λk c=>b k (.inr (.inr (.inl ⟨i,d,by rw[Zh.dH f];exact c⟩))),h.top.keep λk c=>b k (.inr (.inr (.inr (.inl c)))),h.apart,h.apTop,
  ⟨h.list.1.keep λg o e=>n g o e (h.list.2.1 g o e),λg o e=>OV (n g o e (h.list.2.1 g o e)) (h.list.2.1 g o e),h.list.2.2⟩,λj t=>by
  obtain⟨z,q,r,u,A⟩:=h.job j t;have s:y.j≠none:=by simp_all
  exact⟨z.keep (b _ (.inr (.inr (.inr (.inr ⟨s,rfl⟩))))),q.keep λg o e=>x g o e (q.lt r e),r,u,A⟩⟩
def aC.below{w c:ω}{d:Nat}{Z:Zh}{y:YV}(h:aC w d Z y)(b:β w w c):aC c d Z y :=
 h.keep (λ_ f=>b.block _ (h.fF f)) (λ_ _ _ a=>b.block _ a) λ_ _ _ a=>b.block _ a
def aC.beside{S j:Nat->Prop}{w i:ω}{d:Nat}{Z:Zh}{y:YV}(h:aC w d Z y)(c:Moved S w j i)(n:∀ k,fpZ d Z y k->¬S k)(l:Apart Z.la S)(m:Apart Z.jb.a S):aC i d Z y :=
 h.keep (λk f=>c.block (h.fF f) (n k f)) (λg o e b=>c.block b (l g o e)) λg o e b=>c.block b (m g o e)
def jK(c:Nat)(Z:Zh)(y y':YV)(w b:ω):Prop:=∃ Z':Zh,(Z'.la=Z.la\/∀ g o,Z'.la=S ⟨g,o,O⟩->w.heap.size<=g/\g<b.heap.size)/\(Z'.jb.a=Z.jb.a\/∀ g o,Z'.jb.a=S ⟨g,o,O⟩->w.heap.size<=g/\g<b.heap.size)/\aC b c Z' y'/\Moved (fpZ c Z y) w (fpZ c Z' y') b
structure nS(Z Z':Zh):Prop where
 la:Z'.la=Z.la
 lc:Z'.lc=Z.lc
 jb:Z'.jb=Z.jb
 sp:Z'.sp=Z.sp
 tp:Z'.tp.p=Z.tp.p
def nS.refl(Z:Zh):nS Z Z:=⟨rfl,rfl,rfl,rfl,rfl⟩
theorem nS.trans{Z d c:Zh}(a:nS Z d)(b:nS d c):nS Z c:=⟨b.la.trans a.la,b.lc.trans a.lc,b.jb.trans a.jb,b.sp.trans a.sp,b.tp.trans a.tp⟩
def aF(a:Nat)(Z:Zh)(y y':YV)(w b:ω):Prop:=∃ Z':Zh,nS Z Z'/\aC b a Z' y'/\Moved (fpZ a Z y) w (fpZ a Z' y') b
def aF.out{w a:ω}{b:Nat}{Z:Zh}{y z:YV}(h:aF b Z y z w a):jK b Z y z w a:=by
 obtain⟨Z',c,f,d⟩:=h;exact⟨Z',.inl c.la,.inl (by rw[c.jb]),f,d⟩
theorem aF.refl{w:ω}{a:Nat}{Z:Zh}{y:YV}(h:aC w a Z y):aF a Z y y w w:=⟨Z,.refl Z,h,Moved.refl _ _⟩
theorem aF.below{w c:ω}{a:Nat}{Z:Zh}{y:YV}(h:aC w a Z y)(b:β w w c):aF a Z y y w c:=⟨Z,.refl Z,h.below b,Moved.of_below b⟩
theorem aF.trans{w c d:ω}{a:Nat}{Z b:Zh}{y y1 y':YV}(g:nS Z b)(f:Moved (fpZ a Z y) w (fpZ a b y1) c)(h:aF a b y1 y' c d):aF a Z y y' w d:=by
 obtain⟨Z',k,j,i⟩:=h;exact⟨Z',g.trans k,j,f.trans i⟩
def aF.from{w a b:ω}{c:Nat}{Z:Zh}{y y':YV}(i:β w w a)(h:aF c Z y y' a b):aF c Z y y' w b:=by
 obtain⟨Z',g,f,d⟩:=h;exact⟨Z',g,f,(Moved.of_below i).trans d⟩
def Vl{s:SV}{i:Int}:∀(r:List Int) (k:Nat) (a:List Int) (n:Int),Linked s n r->s.good i r->a.length+r.length<=5->r.length<k->s.iK i k a n=(a++r,0):=by
 intro r
 induction r with
 | nil =>
  intro k a n h _ _ d
  cases k with
  | zero=>omega
  | succ k =>
   rw[h,SV.vT,List.append_nil]
 | cons x r t =>
  intro k a n h c j d
  cases k with
  | zero=>omega
  | succ k =>
   obtain⟨f,l,v,b,w⟩:=h;obtain⟨u,g,q⟩:=c x jag;rw[<- f,b] at g;cases g
   simp only[jax] at j d;rw[SV.uD l b (by omega) q,t k _ _ w (λm o=>c m (jb2 _ o)) (by simp;omega) (by omega),<- f,jbC]
   rfl
def Vm{s:SV}{C:Int}{l:List Int}{n:Int}(h:Linked s n l)(a:s.good C l)(d:l.length<=5)(g:l≠[]):s.walk n=(l,0):=by
 have f:s.gZ n=C:=by
  cases l with
  | nil=>simp_all
  | cons x r =>
   obtain⟨v,c,b⟩:=a x jag;unfold SV.gZ;rw[h.1,c];exact b
 unfold SV.walk;rw[f,Vl l 6 [] n h a (by simpa using d) (by omega)]
 rfl
def Linked.over{s z:SV}:∀(l:List Int) (n:Int),Linked s n l->(∀ k∈l,∀ v,s.file k=S v->∃ u,z.file k=S u/\u.h.b=v.h.b)->Linked z n l:=by
 intro l
 induction l with
 | nil=>intro n h _;exact h
 | cons x r g =>
  intro n h d;obtain⟨c,a,v,m,i⟩:=h;obtain⟨u,j,f⟩:=d x jag v (by simp_all)
  exact⟨c,a,u,by simp_all,by simp_all⟩
def bT(l:List Int)(s z:SV):Prop:=∀ k∈l,∀ v,s.file k=S v->∃ u,z.file k=S u/\u.h=v.h
def bT.refl(l:List Int)(s:SV):bT l s s:=λ_ _ v h=>⟨v,h,rfl⟩
def bT.trans{l:List Int}{a b c:SV}(h:bT l a b)(k:bT l b c):bT l a c:=λn d v f=>by
 obtain⟨u,g,i⟩:=h n d v f;obtain⟨t,m,j⟩:=k n d u g
 simp_all
theorem bT.good{l:List Int}{s z:SV}{C:Int}(h:bT l s z)(c:s.good C l):z.good C l:=λn a=>by
 obtain⟨v,b,d⟩:=c n a;obtain⟨u,g,f⟩:=h n a v b
 simp_all
def bT.linked{l:List Int}{s z:SV}{n:Int}(h:bT l s z)(c:Linked s n l):Linked z n l :=
 Linked.over l n c λk a v b=>by
  obtain⟨u,f,d⟩:=h k a v b
  simp_all
def Aa(s:SV){f:Int}(c:0<=f)(b:f<5)(u:IV)(k:Int):(s.upd f.toNat u).file k=if k=f then S u else s.file k:=by
 unfold SV.file SV.upd;by_cases a:0<=k/\k<5
 .rw[if_pos a]
  by_cases e:k=f
  .simp_all
  .rw[if_neg e,if_neg (by omega),if_pos a]
 .rw[if_neg a,if_neg (by omega),if_neg a]
def MP(s:SV){f:Int}(c:0<=f)(b:f<5)(k:Int):(s.gone f.toNat).file k=if k=f then O else s.file k:=by
 unfold SV.file SV.gone;by_cases a:0<=k/\k<5
 .rw[if_pos a]
  by_cases e:k=f
  .simp_all
  .rw[if_neg e,if_neg (by omega),if_pos a]
 .rw[if_neg a,if_neg (by omega),if_neg a]
def bT.set{l:List Int}{s:SV}{f:Int}(g:0<=f)(d:f<5)(b:f ∉ l)(u:IV):bT l s (s.upd f.toNat u):=λk a v c =>
 ⟨v,by rw[Aa s g d,if_neg (λ(e:k=f)=>b (e▸a))];exact c,rfl⟩
theorem bT.gone{l:List Int}{s:SV}{f:Int}(g:0<=f)(d:f<5)(b:f ∉ l):bT l s (s.gone f.toNat):=λk a v c =>
 ⟨v,by rw[MP s g d,if_neg (λ(e:k=f)=>b (e▸a))];exact c,rfl⟩
theorem bT.upd{l:List Int}{s:SV}{n:Int}{v u:IV}(a:s.file n=S v)(b:u.h=v.h):bT l s (s.upd n.toNat u):=λk _ t c=>by
 rw[SV.Ac a];by_cases e:k=n
 .simp_all
 .simp_all
theorem bT.lay(l:List Int)(s:SV)(b:List Int)(c f:Nat)(t:ByteArray):bT l s (s.lay b c f t).1:=by
 unfold SV.lay;split
 .exact .refl l s
 .split
  .exact .refl l s
  .next v a =>
   split
   .exact .upd a (IV.zo _ _ _ _)
   .exact .upd a (IV.xq _ _ _)
theorem bT.dI(l:List Int)(s:SV)(b:List Int)(p:Pt):bT l s (SV.dI b s p).1:=by
 unfold SV.dI;split
 .exact .refl l s
 .split
  .exact .refl l s
  .next v a =>
   split
   .exact .upd a (IV.wO _ _)
   .split
    .exact .refl l s
    .exact .lay _ _ _ _ _ _
theorem bT.jC{a:SV->Pt->SV × Int}{l:List Int}(b:∀(s:SV) p,bT l s (a s p).1):∀(P:List Pt) (s:SV),bT l s (jC a s P).1:=by
 intro P
 induction P with
 | nil=>intro s;exact .refl l s
 | cons p r c =>
  intro s;rw[pY];split
  .exact(b s p).trans (c _)
  simp_all
theorem bT.put(l:List Int)(s:SV)(a:List Int)(fr:Int)(t:ByteArray):bT l s (s.put a fr t).1:=by
 unfold SV.put;split
 .split
  .exact .jC (λs p=>.lay _ _ _ _ _ _) _ _
  .exact .refl l s
 .exact .refl l s
theorem bT.wipe(l:List Int)(s:SV)(a:List Int)(fr n:Int):bT l s (s.wipe a fr n).1:=by
 unfold SV.wipe;split
 .exact .jC (λs p=>.dI _ _ _ _) _ _
 .exact .refl l s
theorem bT.move(l:List Int)(s:SV)(n c:Int)(t:ByteArray):bT l s (s.move n c t).1:=by
 unfold SV.move;split
 .exact .refl l s
 .next v a =>
  split
  .exact .upd a (IV.wO _ _)
  .split
   .exact .upd a (IV.zo _ _ _ _)
   .exact .upd a (IV.xq _ _ _)
theorem bT.fU(l:List Int)(s:SV)(n:Int):bT l s (s.fU n):=by
 unfold SV.fU;split
 .exact .refl l s
 .next v a=>exact .upd a rfl
theorem bT.gK(l:List Int):∀(r:List Int) (s:SV),bT l s (s.gK r):=by
 intro r
 induction r with
 | nil=>intro s;exact .refl l s
 | cons n r a=>intro s;exact(bT.fU l s n).trans (a _)
def bT.step(l:List Int)(s:SV)(j:JV):bT l s (stepS s j):=by
 unfold stepS;split
 .exact .move _ _ _ _ _
 .exact .refl l s
def IV.AL{v:IV}{b:Int}(h:v.iV b≠0):(v.link b).h=v.h:=by
 unfold IV.iV at h;unfold IV.link;split
 .next a =>
  rw[if_pos a] at h;unfold IV.jZ;rw[if_neg h];rfl
 .rfl
def IV.E8{v:IV}{b:Int}(h:v.iV b=0):(v.link b).h=v.oJ b:=by
 unfold IV.iV at h;unfold IV.link;split
 .next a =>
  rw[if_pos a] at h;unfold IV.jZ;rw[if_pos h]
 .simp_all
theorem bT.AL{l:List Int}{s:SV}{n b:Int}(h:(dL s n b).2≠0):bT l s (dL s n b).1:=by
 unfold dL at h |-;split
 .exact .refl l s
 .next v a =>
  rw[a] at h;exact .upd a (IV.AL h)
structure Chain(s:SV)(C:Int)(root:Int)(l:List Int):Prop where
 link:Linked s root l
 good:s.good C l
 len:l.length<=5
 ne:l≠[]
theorem Chain.walk{s:SV}{C root:Int}{l:List Int}(h:Chain s C root l):s.walk root=(l,0):=Vm h.link h.good h.len h.ne
def Chain.over{s z:SV}{C root:Int}{l:List Int}(h:Chain s C root l)(a:bT l s z):Chain z C root l:=⟨a.linked h.link,a.good h.good,h.len,h.ne⟩
def Chain.of{s:SV}{root:Int}(h:(s.walk root).2=0)(a:(s.walk root).1≠[]):Chain s (s.gZ root) root (s.walk root).1 :=
 ⟨SV.qR h,(s.walk_good root).1,(s.walk_good root).2.1,a⟩
def Chain.head{s:SV}{C root:Int}{l:List Int}(h:Chain s C root l):∃ r,l=root::r:=by
 have:=h.link
 cases l with
 | nil=>exact absurd rfl h.ne
 | cons x r=>exact⟨r,by rw[this.1]⟩
theorem Chain.nodup{s:SV}{C root:Int}{l:List Int}(h:Chain s C root l):l.Nodup:=Linked.nodup _ _ h.link
theorem Chain.root{s:SV}{C root:Int}{l:List Int}(h:Chain s C root l):∃ v,s.file root=S v/\v.h.c=C:=by
 obtain⟨r,e⟩:=h.head;exact h.good root (by simp_all)
theorem Chain.gZ{s:SV}{C root:Int}{l:List Int}(h:Chain s C root l):s.gZ root=C:=by
 obtain⟨v,a,b⟩:=h.root;unfold SV.gZ
 simp_all
def Chain.drop{s:SV}{C root k:Int}{p q:List Int}(h:Chain s C root (p++k::q)):Chain s C k (k::q) :=
 ⟨Linked.part p q k root h.link,λn a=>h.good n (List.mem_append_right p a),by have:=h.len;rw[jak] at this;omega,jbM _ _⟩
def Chain.push{s:SV}{C root f:Int}{l:List Int}{u:IV}(h:Chain s C root l)(o:l.length<=4)(d:0<=f)(a:f<5)(i:f ∉ l)(q:u.h.c=C)(k:u.h.b=root):Chain (s.upd f.toNat u) C f (f::l):=by
 have g:bT l s _:=.set d a i u;have j:(s.upd f.toNat u).file f=S u:=by rw[Aa s d a,if_pos rfl]
 refine⟨⟨rfl,by omega,u,j,by rw[k];exact g.linked h.link⟩,λn m=>?_,by simp;omega,jbM _ _⟩
 rcases List.mem_cons.1 m with e|e
 .simp_all
 .exact g.good h.good n e
def Chain.one{s:SV}{f:Int}{v:IV}(a:s.file f=S v)(d:v.h.b = -1):Chain s v.h.c f [f]:=by
 obtain⟨g,_,_⟩:=SV.dS a;refine⟨⟨rfl,by omega,v,a,d⟩,λn i=>?_,by simp,jbM _ _⟩
 simp_all
def Chain.linked{s:SV}{C root k:Int}{p q:List Int}(h:Chain s C root (root::p++k::q))(a:(dL s root k).2=0):Chain (dL s root k).1 C root (root::k::q):=by
 obtain⟨v,c,d⟩:=h.root;have l:=h.nodup;unfold dL at a |-;rw[c] at a |-;have b:=IV.E8 a;obtain⟨i,g,_⟩:=SV.dS c
 have f:root ∉ k::q:=by
  simp_all
 have j:(k::q).length<=4:=by
  have:=h.len
  simp only[jbJ,jax,jak] at this |-;omega
 exact(Chain.drop  h).push j i g f (by rw[b];exact d) (by rw[b];rfl)
def Chain.OL{s:SV}{C root:Int}{l:List Int}(h:Chain s C root l)(a:(dL s root (-1)).2=0):Chain (dL s root (-1)).1 C root [root]:=by
 obtain⟨v,c,d⟩:=h.root;unfold dL at a |-;rw[c] at a |-;have b:=IV.E8 a;obtain⟨i,f,_⟩:=SV.dS c;have g:(s.upd root.toNat (v.link (-1))).file root=S (v.link (-1)):=by rw[Aa s i f,if_pos rfl]
 have:=Chain.one g (by rw[b];rfl)
 rw[b] at this;rw[<- d];exact this
theorem SV.ok.file{s:SV}{m:Nat}(h:s.ok m){n:Int}{v:IV}(a:s.file n=S v):v.ok m:=h _ _ (SV.dS a).2.2
theorem SV.ok.lay{s:SV}{m:Nat}(h:s.ok m)(l:List Int)(c f:Nat)(t:ByteArray)(a:m+10<=1000000000):(s.lay l c f t).1.ok (m+10):=by
 unfold SV.lay;split
 .exact h.more (by omega)
 .split
  .exact h.more (by omega)
  .next v b =>
   split
   .exact h.upd (by omega) ((h.file b).write _ _ _ a)
   .exact h.upd (by omega) ((h.file b).fill _ _ a)
theorem SV.ok.dI{s:SV}{m:Nat}(h:s.ok m)(l:List Int)(p:Pt)(a:m+10<=1000000000):(SV.dI l s p).1.ok (m+10):=by
 unfold SV.dI;split
 .exact h.more (by omega)
 .split
  .exact h.more (by omega)
  .next v b =>
   split
   .exact h.upd (by omega) ((h.file b).clear _ a)
   .split
    .exact h.more (by omega)
    .exact h.lay _ _ _ _ a
theorem SV.ok.jC{a:SV->Pt->SV × Int}(f:∀(s:SV) (m:Nat) p,s.ok m->m+10<=1000000000->(a s p).1.ok (m+10)):∀(P:List Pt) (s:SV) (m:Nat),s.ok m->m+10*P.length<=1000000000->(jC a s P).1.ok (m+10*P.length):=by
 intro P
 induction P with
 | nil=>intro s m h _;exact h
 | cons p r d =>
  intro s m h c;simp only[jax] at c |-;rw[pY];have b:=f s m p h (by omega)
  split
  .have:=d _ _ b (by omega)
   rw[show m+10*(r.length+1)=m+10+10*r.length by omega];exact this
  .exact b.more (by omega)
theorem SV.ok.put{s:SV}{m:Nat}(h:s.ok m)(l:List Int)(fr:Int)(t:ByteArray)(a:m+10*(t.size / 16)<=1000000000):(s.put l fr t).1.ok (m+10*(t.size / 16)):=by
 unfold SV.put;have b:=qF fr.toNat (t.size / 16) _ 0 (ja1 _);split
 .split
  .exact(SV.ok.jC (λs m p h a=>h.lay _ _ _ _ a) _ _ _ h (by omega)).more (by omega)
  .exact h.more (by omega)
 .exact h.more (by omega)
theorem SV.ok.wipe{s:SV}{m:Nat}(h:s.ok m)(l:List Int)(fr n:Int)(a:m+10*n.toNat<=1000000000):(s.wipe l fr n).1.ok (m+10*n.toNat):=by
 unfold SV.wipe;have b:=qF fr.toNat n.toNat _ 0 (ja1 _);split
 .exact(SV.ok.jC (λs m p h a=>h.dI _ _ a) _ _ _ h (by omega)).more (by omega)
 .exact h.more (by omega)
theorem SV.ok.move{s:SV}{m:Nat}(h:s.ok m)(n c:Int)(t:ByteArray)(a:m+10<=1000000000):(s.move n c t).1.ok (m+10):=by
 unfold SV.move;split
 .exact h.more (by omega)
 .next v b =>
  split
  .exact h.upd (by omega) ((h.file b).clear _ a)
  .split
   .exact h.upd (by omega) ((h.file b).write _ _ _ a)
   .exact h.upd (by omega) ((h.file b).fill _ _ a)
theorem SV.ok.fU{s:SV}{m:Nat}(h:s.ok m)(n:Int):(s.fU n).ok m:=by
 unfold SV.fU;split
 .exact h
 .next v a=>exact h.upd (ja1 _) (h.file a).flush
theorem SV.ok.gK:∀(l:List Int) {s:SV} {m:Nat},s.ok m->(s.gK l).ok m:=by
 intro l
 induction l with
 | nil=>intro s m h;exact h
 | cons n r a=>intro s m h;exact a (h.fU n)
theorem SV.ok.link{s:SV}{m:Nat}(h:s.ok m)(n b:Int)(a:m+10<=1000000000):(dL s n b).1.ok (m+10):=by
 unfold dL;split
 .exact h.more (by omega)
 .next v c=>exact h.upd (by omega) ((h.file c).link _ a)
def SV.ok.step{s:SV}{m:Nat}(h:s.ok m)(j:JV)(a:m+10<=1000000000):(stepS s j).ok (m+10):=by
 unfold stepS;split
 .exact h.move _ _ _ a
 .exact h.more (by omega)
def SV.ok.settle{s:SV}{m:Nat}(h:s.ok m)(j:JV)(a:m+10<=1000000000):(dU s j).ok (m+10):=by
 unfold dU;split
 .split
  .exact h.link _ _ a
  .exact(SV.ok.gK _ h).more (by omega)
 .exact h.more (by omega)
def jD(j:JV):aP:=⟨j.rt,j.kind,j.file,j.rate,j.burst⟩
structure JTo(s:SV)(C:Int)(l:List Int)(k:aP):Prop where
 mir:k.kind=1->∃ v,s.file k.file=S v/\v.h.b = -1/\v.h.c=C/\k.file ∉ l
 str:k.kind=2->k.file = -1\/k.file∈l
 com:k.kind=3->k.file∈l
def JTo.over{s z:SV}{C:Int}{l:List Int}{k:aP}(h:JTo s C l k)(b:bT [k.file] s z):JTo z C l k :=
 ⟨λe=>by
  obtain⟨v,a,d,i,f⟩:=h.mir e;obtain⟨u,g,c⟩:=b _ jag v a
  simp_all,h.str,h.com⟩
structure JIn(s:SV)(C:Nat)(l:List Int)(k:aP)(j:JV):Prop where
 ok:JOk s C j
 lst:j.l=l
 dsk:jD j=k
 tgt:JTo s C l k
def JOk.other{s z:SV}{C:Nat}{j:JV}(h:JOk s C j)(d:bT j.l s z)(b:bT [j.file] s z):JOk z C j :=
 {h with
  good:=d.good h.good
  file:=λa=>by
   obtain⟨v,c⟩:=h.file a;obtain⟨u,f,_⟩:=b _ jag v c
   simp_all}
theorem JIn.other{s z:SV}{C:Nat}{l:List Int}{k:aP}{j:JV}(h:JIn s C l k j)(b:bT l s z)(a:bT [k.file] s z):JIn z C l k j :=
 ⟨h.ok.other (by rw[h.lst];exact b) (by have:=h.dsk;rw[<- this] at a;exact a),h.lst,h.dsk,h.tgt.over a⟩
def JIn.over{s z:SV}{C:Nat}{l:List Int}{k:aP}{j:JV}(h:JIn s C l k j)(a:∀ l,bT l s z):JIn z C l k j:=h.other (a _) (a _)
def JIn.as{s z:SV}{C:Nat}{l:List Int}{k:aP}{j a:JV}(h:JIn s C l k j)(f:∀ l,bT l s z)(c:JOk z C a)(d:a.l=j.l)(b:jD a=jD j):JIn z C l k a :=
 ⟨c,d.trans h.lst,b.trans h.dsk,h.tgt.over (f _)⟩
structure YOk(y:YV)(C m:Nat):Prop where
 s:y.s.ok m
 dv:∀ i,(y.dv i).fine (y.dv i).fl.length m
 top:y.top.fine y.top.fl.length m
 aA:y.kd.kv.fault=0
 ch:Chain y.s C y.kd.root y.l
 job:∀ j,y.j=S j->j.stage<4->JIn y.s C y.l y.kd j
 set:∀ j,y.j=S j->S4.jw j.n j.x/\j.n<=40/\(j.stage=1\/j.stage=2\/j.stage=4\/j.stage=5)
theorem YOk.more{y:YV}{C m m':Nat}(h:YOk y C m)(a:m<=m'):YOk y C m':=⟨h.s.more a,λi=>(h.dv i).more a,h.top.more a,h.aA,h.ch,h.job,h.set⟩
theorem YOk.dev{y:YV}{C m:Nat}(h:YOk y C m)(i:Nat):(y.dev i).fine (y.dev i).fl.length m:=by
 unfold YV.dev;split
 .next v a=>exact(h.s i v a).d
 .exact h.dv i
theorem YOk.root{y:YV}{C m:Nat}(h:YOk y C m):0<=y.kd.root/\y.kd.root<=4:=by
 obtain⟨v,a,_⟩:=h.ch.root;have:=SV.dS a
 omega
theorem YOk.over{y:YV}{C m m':Nat}(h:YOk y C m){z:SV}(g:z.ok m')(d:∀ l,bT l y.s z)(b:m<=m'){j:Option JV}
  (c:∀ a,j=S a->a.stage<4->JIn z C y.l y.kd a) (f:∀ a,j=S a->S4.jw a.n a.x/\a.n<=40/\(a.stage=1\/a.stage=2\/a.stage=4\/a.stage=5)):YOk {y with s:=z,j:=j} C m' :=
 ⟨g,λi=>(h.dv i).more b,h.top.more b,h.aA,h.ch.over (d _),c,f⟩
def YOk.files{y:YV}{C m m':Nat}(h:YOk y C m){z:SV}(g:z.ok m')(b:∀ l,bT l y.s z)(c:m<=m'):YOk {y with s:=z} C m' :=
 h.over g b c (λa d f=>(h.job a d f).over b) h.set
def Lh(d:aP):(YV.lV d).length=16:=by
 have:=yF d.kv.bytes (by show 9<=12;omega)
 unfold YV.lV
 simp_all
def U6{d:DV}{m:Nat}(h:d.fine d.fl.length m)(k:aP)(b:m<1000000000):(d.put 0 (YV.lV k)).fine (d.put 0 (YV.lV k)).fl.length (m+1):=by
 have a:=h.put (i:=0)  (by have:=h.ok.n1;omega) (Lh k) b
 rw[a.len];exact a
def qV{y:YV}{m:Nat}(h:y.top.fine y.top.fl.length m)(d:aP)(b:m<1000000000):(y.aA d).top.fine (y.aA d).top.fl.length (m+1):=by
 have a:=U6 h d b;unfold YV.aA;split
 .have:=a.flushed
  rw[this.len];exact this
 .exact a
def vX{y:YV}{d:aP}(h:y.aJ=0):(y.aA d).kd=d:=by
 unfold YV.aA;rw[if_pos (show y.top.aU=0 from h)]
def vW{y:YV}{d:aP}(h:y.aJ≠0):(y.aA d).kd=y.kd:=by
 unfold YV.aA;rw[if_neg (show ¬y.top.aU=0 from h)]
def ny(y:YV)(d:aP):(y.aA d).s=y.s/\(y.aA d).dv=y.dv/\(y.aA d).l=y.l/\(y.aA d).j=y.j:=by
 unfold YV.aA;split<;>exact⟨rfl,rfl,rfl,rfl⟩
def YOk.bare{y:YV}{C m:Nat}(h:YOk y C m)(q:∀ j,y.j=S j->4<=j.stage)(g:m<1000000000):YOk (y.aA (aj y.kd.root)) C (m+1):=by
 obtain⟨b,o,f,c⟩:=ny y _;have n:=h.root;by_cases k:y.aJ=0
 .have a:=vX (d:=aj y.kd.root) k
  refine⟨by rw[b];exact h.s.more (by omega),by rw[o];exact λi=>(h.dv i).more (by omega),qV h.top _ g,by rw[a];exact kX n.1 n.2,by rw[b,f,a];exact h.ch,λj l r=>?_,by rw[c];exact h.set⟩
  rw[c] at l;exact absurd (q j l) (by omega)
 .have a:=vW (d:=aj y.kd.root) k
  exact⟨by rw[b];exact h.s.more (by omega),by rw[o];exact λi=>(h.dv i).more (by omega),qV h.top _ g,by rw[a];exact h.aA,by rw[b,f,a];exact h.ch,by rw[c,b,f,a];exact h.job,by rw[c];exact h.set⟩
def Eb(j:JV)(fr:Nat):∀ k,(iC j fr k).l=j.l/\jD (iC j fr k)=jD j/\(iC j fr k).stage=j.stage/\(iC j fr k).n=j.n:=by
 intro k
 induction k with
 | zero=>exact⟨rfl,rfl,rfl,rfl⟩
 | succ k b =>
  have:∀(a:JV) (c:Int),(dW a c).l=a.l/\jD (dW a c)=jD a/\(dW a c).stage=a.stage/\(dW a c).n=a.n:=λa c=>by
   unfold dW;split<;>exact⟨rfl,rfl,rfl,rfl⟩
  obtain⟨g,d,i,f⟩:=this _ (((fr+k) / 4:Nat):Int);exact⟨g.trans b.1,d.trans b.2.1,i.trans b.2.2.1,f.trans b.2.2.2⟩
def LJ{j:JV}(fr:Nat)(h:S4.jw j.n j.x):∀ k,S4.jw (iC j fr k).n (iC j fr k).x:=by
 intro k
 induction k with
 | zero=>exact h
 | succ k a =>
  show S4.jw (dW _ _).n (dW _ _).x
  unfold dW;split
  .exact a
  .exact S4.yg a _ _
theorem JOk.iC{s:SV}{C:Nat}{j:JV}(h:JOk s C j)(fr:Nat):∀ k,JOk s C (iC j fr k):=by
 intro k
 induction k with
 | zero=>exact h
 | succ k a=>exact a.dirty _
theorem YOk.mark{y:YV}{C m:Nat}(h:YOk y C m)(fr n:Nat):YOk (y.mark fr n) C m:=by
  refine h.over   h.s (λl=>.refl l _) (ja1 _) (λa c r=>?_) (λa c=>?_)
  all_goals
    cases b:y.j with
    | none=>simp_all
    | some j =>
      rw[b] at c;have e:iC j fr n=a:=jaO c;obtain⟨g,f,k,t⟩:=Eb j fr n;rw[<- e]
      first
        | (have d:=h.job j b (by simp_all)
           exact d.as (λl=>.refl l _) (d.ok.iC fr n) g f)
        | (obtain⟨i,o,q⟩:=h.set j b
           exact⟨LJ fr i n,by omega,by omega⟩)
theorem YOk.write{y:YV}{C m:Nat}(h:YOk y C m)(fr:Int)(t:ByteArray)(a:m+10*(t.size / 16)<=1000000000):YOk (y.write fr t) C (m+10*(t.size / 16)):=by
 unfold YV.write;split
 .exact(h.files (h.s.put _ _ _ a) (λl=>.put l _ _ _ _) (by omega)).mark _ _
 .exact h.more (by omega)
theorem YOk.wipe{y:YV}{C m:Nat}(h:YOk y C m)(fr n:Int)(a:m+10*n.toNat<=1000000000):YOk (y.wipe fr n) C (m+10*n.toNat):=by
 unfold YV.wipe;split
 .exact(h.files (h.s.wipe _ _ _ a) (λl=>.wipe l _ _ _ _) (by omega)).mark _ _
 .exact h.more (by omega)
theorem YOk.flush{y:YV}{C m:Nat}(h:YOk y C m):YOk y.flush C m:=h.files (SV.ok.gK _ h.s) (λl=>.gK l _ _) (ja1 _)
def JV.Iq{j:JV}:j.state<4↔j.stage<4:=by
 unfold JV.state;omega
def qW{g:Nat}{Z:Zh}{y:YV}(w:ω)(h:aC w g Z y) :
  Calls Tryz.prog 122 #[g] w λe k=>e=.returned y.busy/\k=w:=by
 obtain⟨_,_,_,_,_,_,_,_,_,c,_⟩:=h.blk.cells
 cases a:y.j with
 | none =>
  rw[a] at c;have i:w.cell? _=S (.pointer O):=c;have d:y.busy=false:=by unfold YV.busy;rw[a]
  rw[d];clear h c a d;go_enter Tryz.func122,Tryz.ntmps122
  go_wp2
  go_ret
  exact⟨rfl,rfl⟩
 | some j =>
  rw[a] at c;have i:w.cell? _=S (.pointer _):=c;have f:=ah (RV w (h.job j a).1);have d:y.busy=decide (j.state<4):=by unfold YV.busy;rw[a];exact decide_eq_decide.2 JV.Iq.symm
  rw[d];clear h c a d;generalize decide (j.state<4)=b at f |-;go_enter Tryz.func122,Tryz.ntmps122
  go_wp2_with fail
  refine cSt f.out ?_;go_wp2
  go_ret
  exact⟨rfl,rfl⟩
def Xd{g:Nat}{Z:Zh}{y:YV}(w:ω)(h:aC w g Z y) :
  Calls Tryz.prog 68 #[g] w λe m =>
   e=.returned (match y.j with|none=>.agg #[(0:Int),(-1:Int),(0:Int),(0:Int)] | some j=>.agg #[j.kind,j.file,j.state,.int .i64 (S4.cnt j.x 64:Nat)])/\β w w m:=by
 obtain⟨_,_,_,_,_,_,_,_,_,c,_⟩:=h.blk.cells
 cases f:y.j with
 | none =>
  rw[f] at c;unfold qY at c;have k:=h.blk.lt;go_enter Tryz.func68,Tryz.ntmps68
  go_wp2
  exact bodyPost_ret (v:=.agg #[(0:Int),(-1:Int),(0:Int),(0:Int)]) (by simp[results,Tryz.results68,go_sem]) rfl ⟨rfl,(ja0 _ _).alloc (ja1 _) _⟩
 | some j =>
  have k:=h.blk.lt;have d:Hid (β _ w (w.alloc (.cells #[(0:Int),(0:Int),(0:Int),(0:Int)] 120))):=(ja0 _ _).alloc (ja1 _) _;rw[f] at c;unfold qY at c;go_enter Tryz.func68,Tryz.ntmps68
  go_wp2_with fail
  refine cEq (Td _ (((h.below d.out).job j f).1)) λa i=>?_
  have b  := (i.block _ (by simp)).trans (heap_alloc_new w _)
  have l:a.cell? ⟨w,0,O⟩=S (.int .i64 0):=by rw[cell_of_row _ _ _ _ _ _ b];rfl
  have n:a.cell? ⟨w,1,O⟩=S (.int .i64 0):=by rw[cell_of_row _ _ _ _ _ _ b];rfl
  have q2:a.cell? ⟨w,2,O⟩=S (.int .i64 0):=by rw[cell_of_row _ _ _ _ _ _ b];rfl
  have o:a.cell? ⟨w,3,O⟩=S (.int .i64 0):=by rw[cell_of_row _ _ _ _ _ _ b];rfl
  have q:=frozen_of_row a _ 0 _ _ b;have s:=frozen_of_row a _ 1 _ _ b;have r:=frozen_of_row a _ 2 _ _ b;have t:=frozen_of_row a _ 3 _ _ b;go_wp2
  exact bodyPost_ret  (by simp[results,Tryz.results68,go_sem,l,n,q2,o]) rfl ⟨rfl,((((d.out.trans (i.mono d.out.size)).setCell (ja1 _) _).setCell (ja1 _) _).setCell (ja1 _) _).setCell (ja1 _) _⟩
def aC.ER{w m:ω}{c:Nat}{Z:Zh}{y:YV}{j j':JV}(h:aC w c Z y)(B:y.j=S j)(f:Kept (λk=>k=Z.jb.xp) w m)(F:bK m Z.jb.xp Z.sp Z.jb.a Z.jb.cap j' j'.state)(D:j'.l=j.l) :
  aC m c Z {y with j:=S j'}/\Moved (fpZ c Z y) w (fpZ c Z {y with j:=S j'}) m:=by
 have r:y.j≠none:=by simp_all
 have t:∀ k,fpZ c Z {y with j:=S j'} k↔fpZ c Z y k:=λk=>by
  constructor
  .rintro(e|e|e|e|e)
   .exact .inl e
   .exact .inr (.inl e)
   .exact .inr (.inr (.inl e))
   .exact .inr (.inr (.inr (.inl e)))
   .exact .inr (.inr (.inr (.inr ⟨r,e.2⟩)))
  .rintro(e|e|e|e|e)
   .exact .inl e
   .exact .inr (.inl e)
   .exact .inr (.inr (.inl e))
   .exact .inr (.inr (.inr (.inl e)))
   .exact .inr (.inr (.inr (.inr ⟨(by simp_all),e.2⟩)))
 have z:Z.jb.fp _ _:=⟨r,rfl⟩;obtain⟨A,J⟩:=h.kC z;have q:Moved _ w _ m:=⟨f.mono λk _ e=>by subst e;exact .inr (.inr (.inr (.inr z))),λk e=>.inl ((t k).1 e)⟩
 obtain⟨K,E,G,I,C⟩:=h.job j B;have x:=h.blk.keep (f.block c h.blk.lt (λe=>h.kH.2.2.2 ⟨r,e⟩))
 rw[B] at x;refine⟨⟨x,(f.block _ (lt_of_some h.shf) (λe=>h.oN.2.2 ⟨r,e⟩)).trans h.shf,λi v d n=>(h.img i v d n).jm λk b=>?_,λi d n=>(h.dev i d n).keep λk b=>?_,h.top.keep λk b=>?_,h.apart,h.apTop,⟨h.list.1.moved q h.list.2.2,λg o e=>ja9 (h.list.2.1 g o e) q.size,λg o e b=>h.list.2.2 g o e ((t g).1 b)⟩,λa H=>?_⟩,q⟩
 .have u:Z.fpF y.s i k:=by rw[Zh.dX n];exact b
  exact f.block k (h.kZ d u) λe=>A i d (by simp_all)
 .have u:Z.fpF y.s i k:=by rw[Zh.dH n];exact b
  exact f.block k (h.kZ d u) λe=>A i d (by simp_all)
 .exact f.block k (h.top.lt k b).2 λe=>J (by simp_all)
 .cases H
  rw[D];exact⟨F,E.moved q C,G,I,λg o e b=>C g o e ((t g).1 b)⟩
def aC.pK{w q:ω}{n:Nat}{Z:Zh}{y:YV}(h:aC w n Z y){m:Rh}{s:DV}(hd:bZ Gd.no q m s)(J:m.p=Z.tp.p)(f:Moved Z.tp.fp w m.fp q) :
  aC q n {Z with tp:=m} {y with top:=s}/\Moved (fpZ n Z y) w (fpZ n {Z with tp:=m} {y with top:=s}) q:=by
 obtain⟨_,_,I,_⟩:=h.kH;obtain⟨_,C,_⟩:=h.oN
 have l:Moved (fpZ n Z y) w (fpZ n {Z with tp:=m} _) q:=⟨f.kept.mono λk _ a=>.inr (.inr (.inr (.inl a))),λk a=>by
  rcases a with a|a|a|a|a
  .exact .inl (.inl a)
  .exact .inl (.inr (.inl a))
  .exact .inl (.inr (.inr (.inl a)))
  .rcases f.new k a with d|d
   .exact .inl (.inr (.inr (.inr (.inl d))))
   omega
  .exact .inl (.inr (.inr (.inr (.inr a))))⟩
 have z:=λi (b:i<5) k (a:Z.fpF _ i k)=>f.block (h.kZ b a) λe=>h.apTop i b k e a
 refine⟨⟨?_,(f.block (lt_of_some h.shf) C).trans h.shf,λi v b r=>(h.img i v b r).jm λk a=>z i b k (by rw[Zh.dX r];exact a),λi b r=>(h.dev i b r).keep λk a=>z i b k (by rw[Zh.dH r];exact a),hd,h.apart,λi b k a t=>?_,⟨h.list.1.moved l h.list.2.2,λg o e=>ja9 (h.list.2.1 g o e) l.size,h.list.2.2.AU h.list.2.1 l⟩,λj H=>?_⟩,l⟩
 .obtain⟨c,d,D,K,F⟩:=h.blk.is
  exact⟨c,(f.block h.blk.lt I).trans d,D,by simp_all,F⟩
 .rcases f.new k a with d|d
  .exact h.apTop i b k d t
  .have:=h.kZ b t;omega
 .obtain⟨u,A,B,E,x⟩:=h.job j H
  have G:y.j≠none:=by simp_all
  exact⟨u.keep (f.block u.lt (h.kC ⟨G,rfl⟩).2),A.moved l x,B,E,x.moved A B l⟩
