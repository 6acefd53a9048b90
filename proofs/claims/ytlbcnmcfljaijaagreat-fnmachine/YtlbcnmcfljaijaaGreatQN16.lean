import Derived.Test.YtlbcnmcfljaijaaGreatQN10
import Derived.Test.YtlbcnmcfljaijaaGreatQN00
import Derived.Test.YtlbcnmcfljaijaaGreatQN06
namespace Go.Proofs.YtlbcnmcfljaijaaGreat
open Go.RowKit
set_option linter.unusedSimpArgs false
set_option linter.unusedVariables false
set_option maxHeartbeats 1000000
set_option maxRecDepth 100000
section
attribute [local go_sem ↓] Go.wp_at_zero Go.wp_at_succ
def fE(m:aN)(s:Int)(a:bl):Int:=if aW m&&fj s 0 ((m.aj.length:Int)-1)then iL m s a else-1
theorem EU(m:aN)(s:Int)(a:bl)(v:Value)(w:World)(hf:m.fit)(hv:bu w v m):Calls Tryz.prog 20 #[v,.int .i64 s,a.val] w fun e w'=>e=.returned (.int .i64 (fE m s a))∧Below w.heap.size w w':=by
 have HF:=aa hf;have HV:Hid (∀W,Below w.heap.size w W→bu W v m):=aa (fun W hb=>hv.carry hb);obtain⟨sv,ev,rfl,hs,he⟩:=hv;have av:=hs.jc;obtain⟨sa,sc,rfl,-⟩:=hs;obtain⟨ea,ec,rfl,-⟩:=he;obtain⟨q1,ac⟩:∃q1,aW m=q1:=⟨_,rfl⟩;obtain⟨q2,ad⟩:∃q2,fj s 0 ((m.aj.length:Int)-1)=q2:=⟨_,rfl⟩;have HR:Hid (fE m s a=if q1&&q2 then iL m s a else-1):=aa (by rw[fE,ac,ad]);have P:=aa ac;have R:=aa ad;clear ac ad hf;have ab:Hid (∀W A B,W=(w.alloc A).alloc B→Below w.heap.size w W):=aa (fun W A B l=>by rw[l];exact dT _ _ _);unfold bl.val;cases q1;·go_enter Tryz.func20,Tryz.ntmps20;go_wp2_with(refine bj 7 (fun W l=>?_);have J:=aH W;have T:=ae (w:=W) (b:=w.heap.size) (o:=0) (v:=.slice sa m.aj.length sc) (by rw[l];simp);have U:=ae (w:=W) (b:=w.heap.size) (o:=1) (v:=.slice ea m.al.length ec) (by rw[l];simp);have f2:=ae (w:=W) (b:=w.heap.size) (o:=2) (v:=.int .i64 m.start) (by rw[l];simp);have g0:=ae (w:=W) (b:=w.heap.size+1) (o:=0) (v:=.int .i64 a.kind) (by rw[l];simp);have g1:=ae (w:=W) (b:=w.heap.size+1) (o:=1) (v:=.string a.peer) (by rw[l];simp);have g2:=ae (w:=W) (b:=w.heap.size+1) (o:=2) (v:=.string a.label) (by rw[l];simp);have g3:=ae (w:=W) (b:=w.heap.size+1) (o:=3) (v:=.int .i64 a.sort) (by rw[l];simp);have C:=aa (ab.out W _ _ l);clear l;(repeat(go_big_quiet_step(first|(go_at_call 25;exact aD (bM P.out _ _ HF.out ((HV.out _ C.out).carry (Grown.dN _))))|(go_at_call 49;exact aD (eR R.out _ _ ((HV.out _ C.out).carry (Grown.dN _)))))));refine wpQuiet_nil ?_;intro I j;have b0:=T ⟨I,j⟩;have b1:=U ⟨I,j⟩;have b2:=f2 ⟨I,j⟩;have a0:=g0 ⟨I,j⟩;have a1:=g1 ⟨I,j⟩;have a2:=g2 ⟨I,j⟩;have a3:=g3 ⟨I,j⟩;dsimp only at b0 b1 b2 a0 a1 a2 a3;have HW:Hid (Below w.heap.size w I):=aa (C.out.trans (j.mono C.out.size));have af:=aa j;clear j J T U f2 g0 g1 g2 g3);go_ret;exact⟨aU HR.out,HW.out⟩
 ·cases q2;·go_enter Tryz.func20,Tryz.ntmps20;go_wp2_with(refine bj 7 (fun W l=>?_);have J:=aH W;have T:=ae (w:=W) (b:=w.heap.size) (o:=0) (v:=.slice sa m.aj.length sc) (by rw[l];simp);have U:=ae (w:=W) (b:=w.heap.size) (o:=1) (v:=.slice ea m.al.length ec) (by rw[l];simp);have f2:=ae (w:=W) (b:=w.heap.size) (o:=2) (v:=.int .i64 m.start) (by rw[l];simp);have g0:=ae (w:=W) (b:=w.heap.size+1) (o:=0) (v:=.int .i64 a.kind) (by rw[l];simp);have g1:=ae (w:=W) (b:=w.heap.size+1) (o:=1) (v:=.string a.peer) (by rw[l];simp);have g2:=ae (w:=W) (b:=w.heap.size+1) (o:=2) (v:=.string a.label) (by rw[l];simp);have g3:=ae (w:=W) (b:=w.heap.size+1) (o:=3) (v:=.int .i64 a.sort) (by rw[l];simp);have C:=aa (ab.out W _ _ l);clear l;(repeat(go_big_quiet_step(first|(go_at_call 25;exact aD (bM P.out _ _ HF.out ((HV.out _ C.out).carry (Grown.dN _))))|(go_at_call 49;exact aD (eR R.out _ _ ((HV.out _ C.out).carry (Grown.dN _)))))));refine wpQuiet_nil ?_;intro I j;have b0:=T ⟨I,j⟩;have b1:=U ⟨I,j⟩;have b2:=f2 ⟨I,j⟩;have a0:=g0 ⟨I,j⟩;have a1:=g1 ⟨I,j⟩;have a2:=g2 ⟨I,j⟩;have a3:=g3 ⟨I,j⟩;dsimp only at b0 b1 b2 a0 a1 a2 a3;have HW:Hid (Below w.heap.size w I):=aa (C.out.trans (j.mono C.out.size));have af:=aa j;clear j J T U f2 g0 g1 g2 g3);go_ret;exact⟨aU HR.out,HW.out⟩
  ·have hb:0≤s∧s<(m.aj.length:Int):=by have:=R.out;simp[fj]at this;omega
   have ah:=aa (iz P.out);have HB:=aa hb;clear hb;go_enter Tryz.func20,Tryz.ntmps20;go_wp2_with(first|(refine bj 7 (fun W l=>?_);have J:=aH W;have T:=ae (w:=W) (b:=w.heap.size) (o:=0) (v:=.slice sa m.aj.length sc) (by rw[l];simp);have U:=ae (w:=W) (b:=w.heap.size) (o:=1) (v:=.slice ea m.al.length ec) (by rw[l];simp);have f2:=ae (w:=W) (b:=w.heap.size) (o:=2) (v:=.int .i64 m.start) (by rw[l];simp);have g0:=ae (w:=W) (b:=w.heap.size+1) (o:=0) (v:=.int .i64 a.kind) (by rw[l];simp);have g1:=ae (w:=W) (b:=w.heap.size+1) (o:=1) (v:=.string a.peer) (by rw[l];simp);have g2:=ae (w:=W) (b:=w.heap.size+1) (o:=2) (v:=.string a.label) (by rw[l];simp);have g3:=ae (w:=W) (b:=w.heap.size+1) (o:=3) (v:=.int .i64 a.sort) (by rw[l];simp);have C:=aa (ab.out W _ _ l);clear l;(repeat(go_big_quiet_step(first|(go_at_call 25;exact aD (bM P.out _ _ HF.out ((HV.out _ C.out).carry (Grown.dN _))))|(go_at_call 49;exact aD (eR R.out _ _ ((HV.out _ C.out).carry (Grown.dN _)))))));refine wpQuiet_nil ?_;intro I j;have b0:=T ⟨I,j⟩;have b1:=U ⟨I,j⟩;have b2:=f2 ⟨I,j⟩;have a0:=g0 ⟨I,j⟩;have a1:=g1 ⟨I,j⟩;have a2:=g2 ⟨I,j⟩;have a3:=g3 ⟨I,j⟩;dsimp only at b0 b1 b2 a0 a1 a2 a3;have HW:Hid (Below w.heap.size w I):=aa (C.out.trans (j.mono C.out.size));have af:=aa j;clear j J T U f2 g0 g1 g2 g3)|(go_at_call 52;refine(Cw m s a _ _ (HV.out _ HW.out) HB.out.1 HB.out.2 ah.out).mono ?_;rintro e w2⟨rfl,ag⟩;have ao:=aa ag;clear ag));go_ret;exact⟨aU (by rw[HR.out];rfl),HW.out.trans (ao.out.mono HW.out.size)⟩
theorem yC{m:aN}(h:aW m=true):0≤m.start∧m.start<(m.aj.length:Int):=by simp[aW,iF,fj]at h;omega
end
section
open Go.RowKit Go.Maps
attribute [local go_sem ↓] Go.wp_at_zero Go.wp_at_succ
def dL(w:World)(m:aN)(es:List ar)(b n:Nat):Prop:=∃D:DataW Unit,w.ownsMap Tryz.prog 121 (plainElem Tryz.prog 2) b n D∧∀f a kl,keyOf Tryz.prog 121 (ic f a)=some kl→(Maps.has D kl=true→∃e∈es,e.src=f∧dD m f e=a∧∀z,D.atKey kl z=.lit (.int .i64 e.dst))∧(Maps.has D kl=false→∀e∈es,¬(e.src=f∧dD m f e=a))
theorem ni{f j:Int}{a a':bl}(h:ic f a=ic j a'):f=j∧a=a':=by cases a;cases a';simp[ic]at h;refine⟨?_,?_⟩<;>simp_all
theorem BS(w:World)(m:aN):dL (w.alloc (.map #[] 0)) m [] w.heap.size 0:=⟨.map [],World.ownsMap_made w _ _ _,fun f a kl l=>⟨fun h=>by simp[Maps.has]at h,fun _ e j=>by cases j⟩⟩
theorem dL.keep{w w':World}{m:aN}{es:List ar}{b n:Nat}{l:List Nat}(h:dL w m es b n)(P:aw w w' l)(R:b∉l):dL w' m es b n:=by obtain⟨D,I,J⟩:=h;refine⟨D,?_,J⟩;obtain⟨j,clock,C,T⟩:=I;exact⟨j,clock,(P.block b (Array.getElem?_eq_some_iff.1 C).1 R).trans C,T⟩
theorem BT{w w':World}{m:aN}{es:List ar}{e0:ar}{b n:Nat}{D:DataW Unit}{C:Lit}(U:w.ownsMap Tryz.prog 121 (plainElem Tryz.prog 2) b n D)(hD:∀f a C,keyOf Tryz.prog 121 (ic f a)=some C→(Maps.has D C=true→∃e∈es,e.src=f∧dD m f e=a∧∀z,D.atKey C z=.lit (.int .i64 e.dst))∧(Maps.has D C=false→∀e∈es,¬(e.src=f∧dD m f e=a)))(j:keyOf Tryz.prog 121 (ic e0.src (dD m e0.src e0))=some C)(P:w'.ownsMap Tryz.prog 121 (plainElem Tryz.prog 2) b (n+1) (D.put C (.lit (.int .i64 e0.dst)))):dL w' m (es++[e0]) b (n+1):=by
 refine⟨_,P,fun f a k' J=>?_⟩;have l:=U.isMap;have T:=dk.key j;by_cases R:k'=C;·subst R;have hv:=dk.inj J j;obtain⟨rfl,rfl⟩:=ni hv;refine⟨fun _=>⟨e0,by simp,rfl,rfl,fun z=>atKey_put_same l T _ z⟩,fun h=>?_⟩;rw[has_put_same l T]at h;cases h
 ·obtain⟨h1,h2⟩:=hD f a k' J;refine⟨fun h=>?_,fun h=>?_⟩;·rw[has_put_other R]at h;obtain⟨e,I,ab,ac,ad⟩:=h1 h;exact⟨e,List.mem_append_left _ I,ab,ac,fun z=>by rw[atKey_put_other R];exact ad z⟩
  ·rw[has_put_other R]at h;intro e I;rcases List.mem_append.1 I with h3|h3;·exact h2 h e h3
   ·simp at h3;subst h3;rintro⟨rfl,rfl⟩;rw[J]at j;exact R (Option.some.inj j)
theorem Ah{m:aN}(h:aW m=true){e:ar}(j:e∈m.al)(s:Int):(dD m s e).vZ:=by have l:=tC h s;have C:=cw h j;exact⟨⟨by simp only[dD];omega,by simp only[dD];omega⟩,⟨by simp only[dD];omega,by simp only[dD];omega⟩⟩
theorem Da{m:aN}(l:m.fit){e:ar}(j:e∈m.al)(s:Int):(dD m s e).ok:=by have:=Ag l j s;exact⟨Nat.le_trans this.1 (by unfold maxLen;omega),Nat.le_trans this.2 (by unfold maxLen;omega)⟩
theorem Bo{c:Value}{m:aN}{x:ar}(C:(dD m x.src x).val=c)(v:Value)(w:World)(I:bu w v m)(j:0≤x.src)(l:x.src<(m.aj.length:Int)):Calls Tryz.prog 36 #[v,x.val] w fun e w'=>e=.returned c∧Below w.heap.size w w':=by subst C;exact C9 m x v w I j l
theorem CT{P:Program}{c:Code}{Q:Exit→Act→World→Prop}{a:Act}{w:World}(h:∀W,W=w→c.wp P Q a W):c.wp P Q a w:=h w rfl
theorem Dj(w:World)(A B C D:Obj)(k:Nat)(l:Array Value)(t:TypeId)(j:Nat)(v:Value)(I:((((w.alloc A).alloc B).alloc C).alloc D).heap[k]?=some (.cells l t))(h:l[j]?=some v):((((w.alloc A).alloc B).alloc C).alloc D).cell? ⟨k,j,none⟩=some v:=by simp only[World.cell?];rw[I];simpa using h
theorem IJ(w:World)(B C D:Obj)(l:Array Value)(t:TypeId)(j:Nat)(v:Value)(h:l[j]?=some v):((((w.alloc (.cells l t)).alloc B).alloc C).alloc D).cell? ⟨w.heap.size,j,none⟩=some v:=Dj _ _ _ _ _ _ l t j v (by rw[fL _ _ _ (by simp;omega),fL _ _ _ (by simp;omega),fL _ _ _ (by simp),bY _ _ _ rfl]) h
theorem J3(w:World)(A C D:Obj)(l:Array Value)(t:TypeId)(j:Nat)(v:Value)(h:l[j]?=some v):((((w.alloc A).alloc (.cells l t)).alloc C).alloc D).cell? ⟨w.heap.size+1,j,none⟩=some v:=Dj _ _ _ _ _ _ l t j v (by rw[fL _ _ _ (by simp),fL _ _ _ (by simp),bY _ _ _ (by simp)]) h
theorem Lj(w:World)(A C D:Obj)(j:Array Value)(t:TypeId)(l:Nat):((((w.alloc A).alloc (.cells j t)).alloc C).alloc D).frozen? ⟨w.heap.size+1,l,none⟩=false:=by
 have I:((((w.alloc A).alloc (.cells j t)).alloc C).alloc D).heap[w.heap.size+1]?=some (.cells j t):=by rw[fL _ _ _ (by simp),fL _ _ _ (by simp),bY _ _ _ (by simp)]
 simp only[World.frozen?];rw[I];simp
theorem J4(w:World)(A B C:Obj)(l:Array Value)(t:TypeId)(j:Nat)(v:Value)(h:l[j]?=some v):((((w.alloc A).alloc B).alloc C).alloc (.cells l t)).cell? ⟨w.heap.size+1+1+1,j,none⟩=some v:=Dj _ _ _ _ _ _ l t j v (by rw[bY _ _ _ (by simp)]) h
theorem xg(m:aN)(v:Value)(w:World)(hm:aW m=true)(hf:m.fit)(hv:bu w v m):Calls Tryz.prog 38 #[v] w fun e w'=>∃sv b,e=.returned (.agg #[sv,.map (some b)])∧cq w' w'.heap.size sv m.aj∧dL w' m m.al b m.al.length∧w.heap.size≤b∧Below w.heap.size w w':=by
 have HF:=aa hf;have HM:=aa hm;have HV:Hid (∀W,Below w.heap.size w W→bu W v m):=aa (fun W hb=>hv.carry hb);obtain⟨sv,ev,rfl,hs,he⟩:=hv;have HS:=aa hs;have cs:=hs.jc;obtain⟨sa,sc,rfl,cp,cr,b3⟩:=hs;obtain⟨ea,ec,rfl,cl,cn,bb⟩:=he;have bp:=aa bb;have ch:=iz hm;clear b3 bb hf hm;have b1:∀W:World,(Instr.makeMap 69 none).run Tryz.prog W=.ok (.map (some W.heap.size)) (W.alloc (.map #[] 0)):=fun W=>rfl;go_enter Tryz.func38,Tryz.ntmps38;go_wp2_with fail;refine CT (fun R l=>?_);have b9:R.heap.size=w.heap.size+4:=by rw[l];simp
 have m0:R.cell? ⟨w.heap.size,0,none⟩=some (.slice sa m.aj.length sc):=by rw[l];exact IJ _ _ _ _ _ _ _ _ rfl
 have m1:R.cell? ⟨w.heap.size,1,none⟩=some (.slice ea m.al.length ec):=by rw[l];exact IJ _ _ _ _ _ _ _ _ rfl
 have m2:R.cell? ⟨w.heap.size,2,none⟩=some (.int .i64 m.start):=by rw[l];exact IJ _ _ _ _ _ _ _ _ rfl
 have r0:R.cell? ⟨w.heap.size+1,0,none⟩=some (.slice none 0 0):=by rw[l];exact J3 _ _ _ _ _ _ _ _ rfl
 have r1:R.cell? ⟨w.heap.size+1,1,none⟩=some (.map none):=by rw[l];exact J3 _ _ _ _ _ _ _ _ rfl
 have fr:∀j,R.frozen? ⟨w.heap.size+1,j,none⟩=false:=fun j=>by rw[l];exact Lj _ _ _ _ _ _ _
 have g0:R.cell? ⟨w.heap.size+1+1+1,0,none⟩=some (.slice sa m.aj.length sc):=by rw[l];exact J4 _ _ _ _ _ _ _ _ rfl
 have g1:R.cell? ⟨w.heap.size+1+1+1,1,none⟩=some (.map (some (w.heap.size+1+1))):=by rw[l];exact J4 _ _ _ _ _ _ _ _ rfl
 have br:Hid (dL R m [] (w.heap.size+1+1) 0):=aa (by rw[l];have:=(BS ((w.alloc (.cells #[.slice sa m.aj.length sc,.slice ea m.al.length ec,.int .i64 m.start] 28)).alloc (.cells #[.slice none 0 0,.map none] 71)) m).keep (ak (ai _ (.cells #[.slice sa m.aj.length sc,.map (some (w.heap.size+1+1))] 71))) (by simp);simpa using this);have bk:Hid (Below w.heap.size w R):=aa (by rw[l];exact((dT _ _ _).trans ((ai _ _).mono (by simp;omega))).trans ((ai _ _).mono (by simp;omega)));have a1:=aa fr;clear l b1 fr;go_loopw[13](fun i wr=>∃k:Nat,k≤m.al.length∧i=.int .i64 k∧dL wr m (m.al.take k) (w.heap.size+1+1) k∧aw R wr [w.heap.size+1+1])(fun i _=>m.al.length-(intOf i).toNat);case atStart=>exact⟨0,Nat.zero_le _,rfl,br.out,(aw.refl R).qk⟩
 case round=>
  obtain⟨k,hk,rfl,be,C⟩:=hrel;have a2:=aa be;have T:=aa C;have cu:w.heap.size+4≤wr.heap.size:=by have:=C.size;omega
  have HW:Hid (Below w.heap.size w wr):=aa (bk.out.trans (C.below (by omega) (by simp;omega)));have b4:=C.bN m0 (by simp<;>omega);have b5:=C.bN m1 (by simp<;>omega);have b6:=C.bN m2 (by simp<;>omega);have cg:=C.bN g0 (by simp<;>omega);have bL:=C.bN g1 (by simp<;>omega);clear be C;by_cases U:k<m.al.length;·
   obtain⟨b,o,rfl,b0,ah⟩:=bp.out (by intro h;simp[h]at U);have ab:=(ah.get k U).carry b0 HW.out;obtain⟨e1,J⟩:∃e1,e1=m.al[k]:=⟨_,rfl⟩;have P:e1∈m.al:=by rw[J];exact List.getElem_mem U
   rw[←J]at ab;obtain⟨d0,d1,d2,d3⟩:=ab;have af:=aa (cw HM.out P);have ba:nN e1.dst:=by have:=af.out;have:=iy HM.out;constructor<;>omega
   have bg:nN e1.src:=by have:=af.out;have:=iy HM.out;constructor<;>omega
   obtain⟨kl,bf⟩:=tG e1.src (dD m e1.src e1) bg (Ah HM.out P _) (Da HF.out P _);have a4:=aa bf;have bn:=aa (plainElem_int (H:=Unit) Tryz.underlying2 (vx ba));have bx:Hid (m.al.take (k+1)=m.al.take k++[e1]):=aa (by rw[List.take_succ_eq_append_getElem U,←J]);obtain⟨ac,a9⟩:∃ac,ac=dD m e1.src e1:=⟨_,rfl⟩;have ax:=aa a9;clear J ah P ba bg bf a9;go_wp2_with fail;refine jI 10 (by kernel_rfl) (by kernel_rfl) (fun W I=>?_);simp only[List.take_succ_cons,List.take_zero,List.drop_succ_cons,List.drop_zero];have b2:=aH W;have ao:Hid (Below wr.heap.size wr W):=aa (by rw[I];exact ai _ _);have f0:=ae (w:=W) (by rw[I];exact((ai wr _).cell (p:=⟨w.heap.size,0,none⟩) (by show w.heap.size<wr.heap.size;omega)).trans b4);have f1:=ae (w:=W) (by rw[I];exact((ai wr _).cell (p:=⟨w.heap.size,1,none⟩) (by show w.heap.size<wr.heap.size;omega)).trans b5);have f2:=ae (w:=W) (by rw[I];exact((ai wr _).cell (p:=⟨w.heap.size,2,none⟩) (by show w.heap.size<wr.heap.size;omega)).trans b6);have f4:=ae (w:=W) (by rw[I];exact((ai wr _).cell (p:=⟨w.heap.size+1+1+1,1,none⟩) (by show w.heap.size+1+1+1<wr.heap.size;omega)).trans bL);have k0:=ae (w:=W) (b:=wr.heap.size) (o:=0) (v:=.int .i64 e1.src) (by rw[I];simp);have k1:=ae (w:=W) (b:=wr.heap.size) (o:=1) (v:=.string e1.label) (by rw[I];simp);have k2:=ae (w:=W) (b:=wr.heap.size) (o:=2) (v:=.int .i64 e1.sort) (by rw[I];simp);have k3:=ae (w:=W) (b:=wr.heap.size) (o:=3) (v:=.int .i64 e1.dst) (by rw[I];simp);have bz:=aa I;clear I;repeat(go_big_quiet_step((go_at_call 36;exact aD (Bo (c:=.agg #[.int .i64 ac.kind,.string ac.peer,.string ac.label,.int .i64 ac.sort]) (by rw[ax.out];rfl) _ _ ((HV.out _ (HW.out.trans (ao.out.mono HW.out.size))).carry (Grown.dN _)) af.out.1 af.out.2.1))))
   refine wpQuiet_nil ?_;intro w2 bi;have az:Hid (Below wr.heap.size wr w2):=aa (ao.out.trans (bi.mono ao.out.size));have bs:Hid (dL w2 m (m.al.take k) (w.heap.size+1+1) k):=aa (a2.out.keep (ak az.out) (by simp));obtain⟨D,a5,a8⟩:=bs.out;have a0:=aa a5;have bm:=aa a8;clear bi b2 f0 f1 f2 f4 k0 k1 k2 k3 bz a5 a8;go_wp2_with(at_mapUpdate;refine wpList_mapUpdate_own _ rfl _ _ _ 69 rfl 121 2 dk Tryz.underlying69 _ (w.heap.size+1+1) k D rfl a0.out (by unfold maxLen;omega) (ic e1.src ac) _ kl rfl rfl (by rw[ax.out];exact a4.out) _ [] bn.out ?_;intro w3 ad ag;have bv:=aa ad;have a3:=aa ag;clear ad ag);go_roundw;case rel=>
    refine⟨k+1,U,by go_num,?_,?_⟩;·rw[bx.out];exact BT a0.out bm.out a4.out bv.out
    ·have:=(T.out.then az.out).trans (aw.grown a3.out);exact this.same
   case measure=>simp[intOf];omega
  ·have ay:Hid (dL wr m m.al (w.heap.size+1+1) m.al.length):=aa (by have:=a2.out;rw[List.take_of_length_le (by omega)]at this;rwa[show k=m.al.length by omega]at this);have b7:=T.out.bN r0 (by simp);have b8:=T.out.bN r1 (by simp);have cc:=T.out.eB (by omega) (a1.out 0) (by simp);have cf:=T.out.eB (by omega) (a1.out 1) (by simp);go_wp2_with fail;obtain⟨W,I⟩:∃W,W=((wr.setCell ⟨w.heap.size+1,0,none⟩ (.slice sa m.aj.length sc)).setCell ⟨w.heap.size+1,1,none⟩ (.map (some (w.heap.size+1+1)))):=⟨_,rfl⟩;have z0:W.cell? ⟨w.heap.size+1,0,none⟩=some (.slice sa m.aj.length sc):=by rw[I,World.cell?_setCell_other _ _ _ _ (by simp)];exact World.cell?_setCell_same _ _ _ b7
   have z1:W.cell? ⟨w.heap.size+1,1,none⟩=some (.map (some (w.heap.size+1+1))):=by rw[I];exact World.cell?_setCell_same _ _ _ (u:=.map none) (by rw[World.cell?_setCell_other _ _ _ _ (by simp)];exact b8)
   rw[←I];have av:Below w.heap.size w W:=by rw[I];exact(HW.out.setCell (p:=⟨w.heap.size+1,0,none⟩) (by simp) _).setCell (p:=⟨w.heap.size+1,1,none⟩) (by simp) _
   have hA:aw wr W [w.heap.size+1]:=by rw[I];exact(((aw.refl wr).qk).setCell _ _).setCell _ _
   refine bodyPost_ret_by (v:=.agg #[.slice sa m.aj.length sc,.map (some (w.heap.size+1+1))]) ?_ rfl ⟨_,_,rfl,(HS.out.carry av).up av.size,ay.out.keep hA (by simp),by omega,av⟩;unfold results;go_simp
end
section
open Go.RowKit Go.Maps
attribute [local go_sem ↓] Go.wp_at_zero Go.wp_at_succ
theorem vb(w:World):(zeroValue 2).run Tryz.prog w=.ok (.int .i64 0) w:=Tryz.zeroValue2 w
theorem zc{c:Int}{m:aN}{s:Int}{a:bl}(hc:iL m s a=c)(hm:aW m=true)(p:Option Addr)(nl nc b n:Nat)(w:World)(hg:dL w m m.al b n)(hs:nN s)(hr:a.vZ)(af:a.ok):Calls Tryz.prog 51 #[.agg #[.slice p nl nc,.map (some b)],.int .i64 s,a.val] w fun e w'=>e=.returned (.int .i64 c)∧Below w.heap.size w w':=by
 obtain⟨kl,J⟩:=tG s a hs hr af;have P:=aa J;have ac:∀A B,dL ((w.alloc A).alloc B) m m.al b n:=fun A B=>hg.keep (ak (dT _ _ _)) (by simp);have az:=aa ac;have HC:=aa hc;have HM:=aa hm;obtain⟨D,U,ab⟩:=hg;have l:=ab s a kl J;have R:=aa l;have T:Hid (∀A B,((w.alloc A).alloc B).ownsMap Tryz.prog 121 (plainElem Tryz.prog 2) b n D):=aa (fun A B=>(U.alloc A).alloc B);obtain⟨ay,ad⟩:∃x,Maps.has D kl=x:=⟨_,rfl⟩;have I:=aa ad;clear J ac l U ab hc hm hs hr af ad;unfold bl.val;cases ay;·have HN:Hid (c=-1):=aa (by rw[←HC.out];exact zO (R.out.2 I.out));go_enter Tryz.func51,Tryz.ntmps51;go_wp2_with(at_lookup;refine wpList_lookup_own_ok_int _ rfl _ _ 69 rfl 121 2 .i64 dk Tryz.underlying69 Tryz.underlying2 (vb _) b n D rfl (T.out _ _) (ic s a) kl rfl P.out ?_;intro c1 j C;rw[I.out];clear j C);go_ret;exact⟨aU HN.out,dT _ _ _⟩
 ·have HY:Hid (∀z,D.atKey kl z=.lit (.int .i64 c)):=aa (by obtain⟨e,ah,ao,av,ax⟩:=R.out.1 I.out;intro z;rw[ax z,←HC.out,zP HM.out ah ao av]);go_enter Tryz.func51,Tryz.ntmps51;go_wp2_with(at_lookup;refine wpList_lookup_own_ok_int _ rfl _ _ 69 rfl 121 2 .i64 dk Tryz.underlying69 Tryz.underlying2 (vb _) b n D rfl (T.out _ _) (ic s a) kl rfl P.out ?_;intro c1 j C;have ag:Hid (c=c1):=aa (by rw[HY.out]at j;injection j with h;injection h);rw[I.out];clear j C);go_ret;exact⟨aU ag.out,dT _ _ _⟩
theorem vT(m:aN)(s:Int)(a:bl)(v:Value)(w:World)(hf:m.fit)(hr:a.vZ)(ac:a.ok)(hv:bu w v m):Calls Tryz.prog 19 #[v,.int .i64 s,a.val] w fun e w'=>e=.returned (.int .i64 (fE m s a))∧Below w.heap.size w w':=by
 have HF:=aa hf;have HV:Hid (∀W,Below w.heap.size w W→bu W v m):=aa (fun W hb=>hv.carry hb);obtain⟨sv,ev,rfl,hs,he⟩:=hv;obtain⟨sa,sc,rfl,-⟩:=hs;obtain⟨ea,ec,rfl,-⟩:=he;obtain⟨q,hq⟩:∃q,(aW m&&fj s 0 ((m.aj.length:Int)-1))=q:=⟨_,rfl⟩;have HR:Hid (fE m s a=if q then iL m s a else-1):=aa (by rw[fE,hq]);have HQ:=aa hq;have R:=aa (And.intro hr ac);clear hq hf hr ac;unfold bl.val;cases q;·go_enter Tryz.func19,Tryz.ntmps19;go_wp2_with(go_at_call 34;refine(im HQ.out _ _ HF.out (HV.out _ (dT _ _ _))).mono ?_;rintro e P⟨rfl,j⟩;have C:Hid (Below w.heap.size w P):=aa ((dT _ _ _).trans (j.mono (by simp;omega)));clear j);go_ret;exact⟨aU HR.out,C.out⟩
 ·have I:aW m=true∧fj s 0 ((m.aj.length:Int)-1)=true:=by have:=HQ.out;simpa using this
  have HM:=aa I.1;have ah:Hid (nN s):=aa (by have:=I.2;have:=iy I.1;simp[fj]at*;constructor<;>omega);clear I;go_enter Tryz.func19,Tryz.ntmps19;go_wp2_with(go_at_call 34;refine(im HQ.out _ _ HF.out (HV.out _ (dT _ _ _))).mono ?_;rintro e P⟨rfl,j⟩;have C:Hid (Below w.heap.size w P):=aa ((dT _ _ _).trans (j.mono (by simp;omega)));have J:w.heap.size+1<P.heap.size:=(by have:=j.size;simp at this;omega);have b0:=(j.cell (p:=⟨w.heap.size,0,none⟩) (by simp;omega));have b1:=(j.cell (p:=⟨w.heap.size,1,none⟩) (by simp;omega));have b2:=(j.cell (p:=⟨w.heap.size,2,none⟩) (by simp;omega));have a0:=(j.cell (p:=⟨w.heap.size+1,0,none⟩) (by simp));have a1:=(j.cell (p:=⟨w.heap.size+1,1,none⟩) (by simp));have a2:=(j.cell (p:=⟨w.heap.size+1,2,none⟩) (by simp));have a3:=(j.cell (p:=⟨w.heap.size+1,3,none⟩) (by simp));simp at b0 b1 b2 a0 a1 a2 a3;clear j);go_region_with(first|(go_at_call 38;refine(xg m _ _ HM.out HF.out (HV.out _ C.out.drew)).mono ?_;rintro e w2⟨sv,b,rfl,ad,ab,-,T⟩;obtain⟨p2,c2,rfl⟩:=ad.shape;have ag:=aa ab;have l:Hid (Below P.heap.size P w2):=aa ((Below.refl _ _).drew.trans T);have c0:=(l.out.cell (p:=⟨w.heap.size+1,0,none⟩) J).trans a0;have c1:=(l.out.cell (p:=⟨w.heap.size+1,1,none⟩) J).trans a1;have ao:=(l.out.cell (p:=⟨w.heap.size+1,2,none⟩) J).trans a2;have c3:=(l.out.cell (p:=⟨w.heap.size+1,3,none⟩) J).trans a3;clear ad ab T)|(go_at_call 51;refine(zc (a:=a) rfl HM.out _ _ _ _ _ _ ag.out ah.out R.out.1 R.out.2).mono ?_;rintro e w3⟨rfl,U⟩;have af:=aa U;clear U));all_goals go_wp2_with fail;go_ret;exact⟨aU HR.out,C.out.trans ((l.out.trans (af.out.mono l.out.size)).mono C.out.size)⟩
end
section
open Go.RowKit Go.Maps
def CP(f:Int)(a:bl)(j:Lit):Prop:=keyOf Tryz.prog 121 (ic f a)=some j
structure yO(D0:DataW Unit)(R:List Int)(D:DataW Unit)(left:Lit→Bool)(acc:List Int):Prop where
 held:∀f a kl,CP f a kl→Maps.has D kl=(Maps.has D0 kl&&(left kl||!R.contains f))
 same:∀kl z,Maps.has D kl=true→D.atKey kl z=D0.atKey kl z
 low:∀kl,left kl=true→Maps.has D0 kl=true
 I7:∀x,x∈acc↔∃f a kl,CP f a kl∧Maps.has D0 kl=true∧left kl=false∧f∈R∧∀z,D0.atKey kl z=.lit (.int .i64 x)
theorem zi(j:DataW Unit)(R:List Int):yO j R j (Maps.has j) []where
 held:=fun f a kl _=>by cases Maps.has j kl<;>simp
 same:=fun _ _ _=>rfl;low:=fun _ h=>h;I7:=fun x=>⟨fun h=>absurd h (by simp),fun⟨f,a,kl,_,C,l,_⟩=>by rw[C]at l;cases l⟩
theorem Gs{D0 D:DataW Unit}{R:List Int}{C:Lit→Bool}{acc:List Int}{f:Int}{a:bl}{j:Lit}{c:Int}(h:yO D0 R D C acc)(U:CP f a j)(hl:C j=true)(T:∀z,D.atKey j z=.lit (.int .i64 c))(hf:f∈R):yO D0 R (D.del j) (fun z=>C z&&!z.sameKey j) (acc++[c])where
 held:=fun P a' l ab=>by
  by_cases I:l=j;·subst I;obtain⟨rfl,rfl⟩:=ni (dk.inj ab U);rw[has_del_same,WideAt.sameKey_self (dk.key U)];simp[hf]
  ·rw[has_del_other I,h.held P a' l ab];have:l.sameKey j=false:=by
    cases hs:l.sameKey j;·rfl
    ·exact absurd (WideAt.sameKey_eq hs) I
   simp[this]
 same:=fun l z J=>by
  by_cases I:l=j;·subst I;rw[has_del_same]at J;cases J
  ·rw[has_del_other I]at J;rw[atKey_del_other I];exact h.same l z J
 low:=fun l J=>by simp at J;exact h.low l J.1
 I7:=fun x=>by
  have hD:Maps.has D j=true:=by rw[h.held f a j U,h.low j hl,hl];rfl
  rw[List.mem_append,h.I7 x];constructor;·
   rintro(⟨P,a',l,h1,h2,h3,h4⟩|hx);·exact⟨P,a',l,h1,h2,by rw[h3];rfl,h4⟩
   ·simp at hx;subst hx;exact⟨f,a,j,U,h.low j hl,by simp[WideAt.sameKey_self (dk.key U)],hf,fun z=>by rw[←h.same j z hD];exact T z⟩
  ·rintro⟨P,a',l,h1,h2,h3,h4,h5⟩;by_cases I:l=j;·subst I;right;have h6:=h5 (.lit (.int .i64 0));rw[←h.same l _ hD,T]at h6;simp at h6;simp[h6]
   ·have:l.sameKey j=false:=by
     cases hs:l.sameKey j;·rfl
     ·exact absurd (WideAt.sameKey_eq hs) I
    rw[this]at h3;exact .inl ⟨P,a',l,h1,h2,by simpa using h3,h4,h5⟩
theorem D6{D0 D:DataW Unit}{R:List Int}{l:Lit→Bool}{acc:List Int}{f:Int}{a:bl}{C:Lit}(h:yO D0 R D l acc)(hk:CP f a C)(hl:l C=true)(hf:f∉R):yO D0 R D (fun z=>l z&&!z.sameKey C) acc where
 held:=fun I a' j P=>by
  rw[h.held I a' j P];by_cases J:j=C;·subst J;obtain⟨rfl,rfl⟩:=ni (dk.inj P hk);simp[hl,hf]
  ·have:j.sameKey C=false:=by
    cases hs:j.sameKey C;·rfl
    ·exact absurd (WideAt.sameKey_eq hs) J
   simp[this]
 same:=h.same;low:=fun j hh=>by simp at hh;exact h.low j hh.1
 I7:=fun x=>by
  rw[h.I7 x];constructor;·rintro⟨I,a',j,T,h2,U,h4⟩;exact⟨I,a',j,T,h2,by rw[U];rfl,h4⟩
  ·rintro⟨I,a',j,T,h2,U,h4,h5⟩;by_cases J:j=C;·subst J;obtain⟨rfl,rfl⟩:=ni (dk.inj T hk);exact absurd h4 hf
   ·have:j.sameKey C=false:=by
     cases hs:j.sameKey C;·rfl
     ·exact absurd (WideAt.sameKey_eq hs) J
    rw[this]at U;exact⟨I,a',j,T,h2,by simpa using U,h4,h5⟩
def yN(m:aN)(es:List ar)(D:DataW Unit):Prop:=∀f a kl,CP f a kl→(Maps.has D kl=true→∃e∈es,e.src=f∧dD m f e=a∧∀z,D.atKey kl z=.lit (.int .i64 e.dst))∧(Maps.has D kl=false→∀e∈es,¬(e.src=f∧dD m f e=a))
theorem BI{m:aN}(R:aW m=true){e l:ar}(I:e∈m.al)(C:l∈m.al)(T:e.src=l.src)(P:e.label=l.label):e=l:=by obtain⟨i,hi,rfl⟩:=List.getElem_of_mem I;obtain⟨j,J,rfl⟩:=List.getElem_of_mem C;obtain rfl:=uk R i j hi J T P;rfl
theorem D5{m:aN}{es:List ar}{D0 D:DataW Unit}{R:List Int}{ab:Lit→Bool}{acc:List Int}(hm:aW m=true)(hf:m.fit)(l:∀e∈es,e∈m.al)(h0:yN m es D0)(h:yO D0 R D ab acc)(hl:∀j,ab j=false):yN m (es.filter (oI R)) D∧∀x,x∈acc↔∃e∈es,e.src∈R∧e.dst=x:=by
 have ad:∀e∈es,∃j,CP e.src (dD m e.src e) j:=fun e C=>by have I:=cw hm (l e C);have h2:=iy hm;exact tG e.src _ ⟨by omega,by omega⟩ (Ah hm (l e C) _) (Da hf (l e C) _)
 refine⟨fun f a j J=>⟨fun P=>?_,fun P e C=>?_⟩,fun x=>⟨fun hx=>?_,fun⟨e,C,hs,hd⟩=>?_⟩⟩;·have T:=P;rw[h.held f a j J,hl j]at T;simp at T;obtain⟨e,C,I,h2,U⟩:=(h0 f a j J).1 T.1;exact⟨e,List.mem_filter.2 ⟨C,lX.2 (by rw[I];exact T.2)⟩,I,h2,fun z=>by rw[h.same j z P];exact U z⟩
 ·obtain⟨ah,ac⟩:=List.mem_filter.1 C;rintro⟨I,h2⟩;rw[h.held f a j J,hl j]at P;have U:=lX.1 ac;rw[I]at U;simp[U]at P;exact(h0 f a j J).2 P e ah ⟨I,h2⟩
 ·obtain⟨f,a,j,J,I,h2,U,h4⟩:=(h.I7 x).1 hx;obtain⟨e,C,rfl,ac,ao⟩:=(h0 f a j J).1 I;have h5:=ao (.lit (.int .i64 0));rw[h4]at h5;simp at h5;exact⟨e,C,U,h5.symm⟩
 ·obtain⟨j,J⟩:=ad e C;have P:Maps.has D0 j=true:=by
   cases hq:Maps.has D0 j;·exact absurd ⟨rfl,rfl⟩ ((h0 _ _ j J).2 hq e C)
   ·rfl
  obtain⟨e',ag,I,h2,U⟩:=(h0 _ _ j J).1 P;have af:e'.label=e.label:=by have:=congrArg bl.label h2;simpa[dD]using this
  obtain rfl:=BI hm (l e' ag) (l e C) I af;exact(h.I7 x).2 ⟨_,_,j,J,P,hl j,hs,fun z=>by rw[U z,hd]⟩
end
end Go.Proofs.YtlbcnmcfljaijaaGreat
