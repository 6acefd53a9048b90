import Derived.Test.YtlbcnmcfljaijaaGreatQN20
import Derived.Test.YtlbcnmcfljaijaaGreatQN28
namespace Go.Proofs.YtlbcnmcfljaijaaGreat
open Go.RowKit
set_option linter.unusedSimpArgs false
set_option linter.unusedVariables false
set_option maxHeartbeats 4000000
set_option maxRecDepth 100000
theorem JG(C:Bool)(f:Nat)(ih:jq C f)(st all r:List Nd)(I:Nat)(v:Value)(w:World)(bv:st.length+(f+1)=10)(c8:yI st)(c6:I<all.length)(cr:all.length≤40)(many sort:Int)(name j:ByteArray)(hn:all[I]=⟨6,name,j,many,sort⟩)(ha:ahead (aQ C) (f+1) st (all.drop I)=some r)(hx:lN w v all):Calls Tryz.prog 180 #[v,.int .i64 I] w fun e w'=>e=.returned (.tuple #[.string (bH (f+1) (all.drop I)).1,.int .i64 ((all.length-r.length:Nat):Int)])∧Below w.heap.size w w':=by
 have HX:=aa hx;have HI:=aa ih;have HL:=aa bv;obtain⟨b,o,cap,rfl,hc,hm,a2,cs⟩:=hx;have J:=a2.get I c6;have cl:=aa a2;have az:all.drop I=⟨6,name,j,many,sort⟩::all.drop (I+1):=by rw[←hn];exact bX c6
 rw[hn]at J;obtain⟨c0,c1,c2,c3,c4⟩:=J;dsimp only at c0 c1 c2 c3 c4;rw[az]at ha⊢;rw[cM (by simp) (by simp) (by simp)]at ha;obtain⟨T,hk⟩:aQ C ⟨6,name,j,many,sort⟩=true∧aS (ahead (aQ C) f (⟨6,name,j,many,sort⟩::st)) many.toNat [] (all.drop (I+1))=some r:=by
  split at ha;·rename_i h;exact⟨h,ha⟩
  ·cases ha
 have a3:yI (⟨6,name,j,many,sort⟩::st):=fun x hx h2=>by
  rcases List.mem_cons.1 hx with e|e;·rw[e]at h2;simp at h2
  ·exact c8 x e h2
 have c9:=rI T;have bx:1≤many.toNat∧many.toNat≤4∧many=(many.toNat:Int):=by simp only[aQ,fB,Bool.and_eq_true,decide_eq_true_eq]at T;omega
 have er:j.size≤20:=by simp only[aQ,Bool.and_eq_true]at T;exact fG T.1.1.1
 have ao:name.size≤20:=by
  simp only[aQ,Bool.and_eq_true]at T;cases C;·simp at T<;>first|exact fG T.2.1|exact fG T.2.1.2
  ·simp at T<;>(
    have h0:name.data.toList=[]:=by rw[←Go.ByteArray.toList_eq];simp[T]
    have h3:name.size=name.data.toList.length:=rfl;rw[h3,h0];simp)
 obtain⟨e1,s1,n1⟩:=kp (fun l r=>fq C f _ l r a3) _ _ _ _ hk;obtain⟨m,cz⟩:∃m,many.toNat=m:=⟨_,rfl⟩;rw[cz]at bx s1 hk;obtain⟨en,eo,d9⟩:=bx;subst d9;obtain⟨pre,a1⟩:∃pre,kG ⟨6,name,j,m,sort⟩++ba [123]=pre:=⟨_,rfl⟩;have ea:pre.size≤42:=by rw[←a1,fk,iM];simp only[List.length_cons,List.length_nil];have:(kG ⟨6,name,j,m,sort⟩).size≤41:=c9;omega
 have bp:=aa a1;have b3:=aa a3;have HK:=aa hk;have d6:Hid (eW (bW (bH f) m (all.drop (I+1))).1≤1720):=aa (by have h:=s1;rw[List.length_drop]at h;omega);have d5:Hid ((bH (f+1) (⟨6,name,j,m,sort⟩::all.drop (I+1))).1=pre++dV (bW (bH f) m (all.drop (I+1))).1++ba [125]):=aa (by rw[←bp.out];rfl);obtain⟨bi,bz⟩:∃bi,(bW (bH f) m (all.drop (I+1))).1=bi:=⟨_,rfl⟩;have ax:=aa bz;clear a2 hn az ha T a3 c9 c8 bv e1 s1 n1 cz a1 hk bz ih;go_enter Tryz.func180,Tryz.ntmps180;go_wp2_with fail;go_loopw[1,7,10](fun av tv kv wr=>∃(k p:Nat)(acc ls:List ByteArray),k≤m∧kv=.int .i64 k∧av=.int .i64 p∧p≤all.length∧tv=.string (pre++dV acc)∧acc.length=k∧aS (ahead (aQ C) f (⟨6,name,j,m,sort⟩::st)) (m-k) ls (all.drop p)=some r∧acc++(bW (bH f) (m-k) (all.drop p)).1=bi∧Below (w.heap.size+1) (w.alloc (.cells #[.int .i64 6,.string name,.string j,.int .i64 (m:Int),.int .i64 sort] 108)) wr)(fun _ _ kv _=>m-(intOf kv).toNat);case atStart=>refine⟨0,I+1,[],[],Nat.zero_le _,rfl,by go_num,by omega,?_,rfl,HK.out,ax.out,Below.refl _ _⟩;congr 1;rw[←bp.out];apply ju;simp[kG,dV,ba]
 case round=>
  obtain⟨k,p,acc,ls,hk,rfl,rfl,hp,rfl,br,bs,b9,ab⟩:=hrel;have ad:=aa br;have bm:=aa bs;have HT:=aa b9;have bk:=aa ab;have af:w.heap.size+1≤wr.heap.size:=by have:=ab.size;simpa using this
  have HW:Hid (Below w.heap.size w wr):=aa ((aC _ _).trans (ab.mono (by omega)));have ef:wr.cell? ⟨w.heap.size,3,none⟩=some (.int .i64 (m:Int)):=(ab.cell (p:=⟨w.heap.size,3,none⟩) (by simp)).trans (by simp);have d7:(dV acc).size≤1720:=by
   have h1:=mj acc;have h2:=d6.out;rw[ax.out,←b9]at h2;have h3:eW (acc++(bW (bH f) (m-k) (all.drop p)).1)=eW acc+eW (bW (bH f) (m-k) (all.drop p)).1:=by simp[eW]
   omega
  obtain⟨tc,bg⟩:∃tc,pre++dV acc=tc:=⟨_,rfl⟩;have ej:tc.size≤1762:=by rw[←bg,fk];omega
  rw[bg];have b4:=aa bg;clear br bs b9 ab bg d7;by_cases cy:k<m;·
   obtain⟨c,l1,r1,bb,ah,be,cv⟩:=sS cy bm.out;have a0:p<all.length:=by
    rcases Nat.lt_or_ge p all.length with h|h;·exact h
    ·rw[List.drop_of_length_le h]at bb;cases bb
   rw[bX a0]at bb;injection bb with b6 cx;have J:=(cl.out.get p a0).carry cs HW.out;rw[b6]at J;have a5:=aa J;have el:=aa ah;have cg:=aa be;have ch:=aa cv;have U:b<wr.heap.size:=Nat.lt_of_lt_of_le cs HW.out.size;have em:c.name.size≤20:=by simp only[cI,Bool.and_eq_true]at ah;exact fG ah.1.2
   have c7:0≤c.sort∧c.sort≤2:=by simp only[cI,jF,Bool.and_eq_true,decide_eq_true_eq]at ah;exact ah.2
   obtain⟨e1,s1⟩:=fq C f _ l1 r1 b3.out be;have cp:=aa (nG (tf:=bH f) (c:=c) (l1:=l1) cy);have a4:=aa (show all.drop p=c::l1 by rw[bX a0,b6,cx]);subst cx;obtain⟨t1,b8⟩:∃t1,(bH f (all.drop (p+1))).1=t1:=⟨_,rfl⟩;rw[b8]at s1;have ep:t1.size≤1720:=by rw[List.length_drop]at s1;omega
   have a9:=aa b8;have cf:=aa e1;obtain⟨sv,bf⟩:∃sv,eV c.sort=sv:=⟨_,rfl⟩;have eg:sv.size≤4:=by rw[←bf];exact rF _
   have cn:=aa bf;have cc:Hid (iW c t1=c.name++ba [40]++sv++ba [41,46]++t1):=aa (by rw[←bf];rfl);have bn:=aa (vI (dn (aQ C) f _ (all.drop (p+1)) r1 be));obtain⟨p2,c5⟩:∃p2,all.length-r1.length=p2:=⟨_,rfl⟩;have ag:=aa c5;have a8:=aa c7;clear ah be cv b6 J e1 s1 b8 bf c5 c7;rcases Nat.eq_zero_or_pos k with cu|cu;·
    subst cu;have df:Hid (acc=[]):=aa (List.length_eq_zero_iff.1 ad.out);go_wp2_with(go_at_call 180;refine(HI.out (⟨6,name,j,m,sort⟩::st) all r1 (p+1) _ _ _ (by have:=HL.out;simp;omega) b3.out (by omega) (by omega) cr cg.out (HX.out.carry HW.out)).mono ?_;rintro e w1⟨rfl,P⟩;rw[a9.out,ag.out];have b1:=aa (a5.out.carry U P);obtain⟨d0,d1,d2,d3,d4⟩:=a5.out.carry U P;have bL:=aa P;have ao:=P.size;have ay:b<w1.heap.size:=Nat.lt_of_lt_of_le U ao;clear P d0 d2 d3);have q1:¬9223372036854775807<tc.size+c.name.size:=by omega
    have eb:¬9223372036854775807≤tc.size+c.name.size:=by omega
    have ec:¬9223372036854775807<tc.size+c.name.size+1:=by omega
    have ed:¬9223372036854775806<tc.size+c.name.size:=by omega
    have q3:¬9223372036854775807<tc.size+c.name.size+1+sv.size:=by omega
    have q4:¬9223372036854775807<tc.size+c.name.size+1+sv.size+2:=by omega
    have ee:¬9223372036854775805<tc.size+c.name.size+1+sv.size:=by omega
    have q5:¬9223372036854775807<tc.size+c.name.size+1+sv.size+2+t1.size:=by omega
    go_region_with(go_at_call 184;refine(gD c.sort _ a8.out.1 a8.out.2).mono ?_;rintro e w2⟨rfl,ac⟩;rw[cn.out];have b2:Hid (bw w2 b (o+p*5) c):=aa (bw.carry (w:=w1.drew) (B:=w1.heap.size) b1.out ay ac);obtain⟨f0,f1,f2,f3,f4⟩:=b2.out;have b0:Hid (Below w1.heap.size w1 w2):=aa (Below.trans (Below.refl _ _).drew ac);clear ac f0 f2 f3);go_wp2_with fail;all_goals
     go_roundw;case rel=>
      have R:=bn.out;rw[ag.out]at R;refine⟨0+1,p2,acc++[iW c t1],ls++[c.name],by omega,by go_num,rfl,by have:=ag.out;omega,?_,by have:=ad.out;rw[List.length_append];simp only[List.length_cons,List.length_nil];omega,by rw[←R];exact ch.out,?_,bk.out.trans ((bL.out.mono af).trans (b0.out.mono (Nat.le_trans af ao)))⟩;·congr 1;rw[cc.out,←b4.out];rw[df.out];apply ju;simp[dV,ba]
      ·rw[←HT.out,a4.out,cp.out,a9.out,cf.out,←R];simp
     case measure=>simp[intOf];omega
   ·have dp:Hid (acc≠[]):=aa (fun h=>by have:=ad.out;rw[h]at this;simp at this;omega);have d8:(0:Int)<(k:Int):=by omega
    go_wp2_with(go_at_call 180;refine(HI.out (⟨6,name,j,m,sort⟩::st) all r1 (p+1) _ _ _ (by have:=HL.out;simp;omega) b3.out (by omega) (by omega) cr cg.out (HX.out.carry HW.out)).mono ?_;rintro e w1⟨rfl,P⟩;rw[a9.out,ag.out];have b1:=aa (a5.out.carry U P);obtain⟨d0,d1,d2,d3,d4⟩:=a5.out.carry U P;have bL:=aa P;have ao:=P.size;have ay:b<w1.heap.size:=Nat.lt_of_lt_of_le U ao;clear P d0 d2 d3);have q1:¬9223372036854775807<tc.size+1+c.name.size:=by omega
    have eb:¬9223372036854775807≤tc.size+1+c.name.size:=by omega
    have ec:¬9223372036854775807<tc.size+1+c.name.size+1:=by omega
    have ed:¬9223372036854775806<tc.size+1+c.name.size:=by omega
    have q3:¬9223372036854775807<tc.size+1+c.name.size+1+sv.size:=by omega
    have q4:¬9223372036854775807<tc.size+1+c.name.size+1+sv.size+2:=by omega
    have ee:¬9223372036854775805<tc.size+1+c.name.size+1+sv.size:=by omega
    have q5:¬9223372036854775807<tc.size+1+c.name.size+1+sv.size+2+t1.size:=by omega
    go_region_with(go_at_call 184;refine(gD c.sort _ a8.out.1 a8.out.2).mono ?_;rintro e w2⟨rfl,ac⟩;rw[cn.out];have b2:Hid (bw w2 b (o+p*5) c):=aa (bw.carry (w:=w1.drew) (B:=w1.heap.size) b1.out ay ac);obtain⟨f0,f1,f2,f3,f4⟩:=b2.out;have b0:Hid (Below w1.heap.size w1 w2):=aa (Below.trans (Below.refl _ _).drew ac);clear ac f0 f2 f3);go_wp2_with fail;all_goals
     go_roundw;case rel=>
      have R:=bn.out;rw[ag.out]at R;refine⟨k+1,p2,acc++[iW c t1],ls++[c.name],by omega,by go_num,rfl,by have:=ag.out;omega,?_,by have:=ad.out;rw[List.length_append];simp only[List.length_cons,List.length_nil];omega,by rw[←R];exact ch.out,?_,bk.out.trans ((bL.out.mono af).trans (b0.out.mono (Nat.le_trans af ao)))⟩;·congr 1;rw[cc.out,←b4.out];rw[la dp.out];apply ju;simp[ba]
      ·rw[←HT.out,a4.out,cp.out,a9.out,cf.out,←R];simp
     case measure=>simp[intOf];omega
  ·have b7:k=m:=by omega
   have b5:Hid (acc=bi):=aa (by have:=HT.out;rw[b7,Nat.sub_self]at this;simpa[bW]using this);have a4:Hid (all.drop p=r):=aa (by have:=bm.out;rw[b7,Nat.sub_self]at this;simpa[aS]using this);have dz:Hid (p=all.length-r.length):=aa (by have h:=congrArg List.length a4.out;rw[List.length_drop]at h;omega);have d8:¬(k:Int)<(m:Int):=by omega
   clear b7;go_wp2_with fail;go_ret2;refine⟨?_,HW.out⟩;rw[d5.out,ax.out,←b5.out,b4.out,←dz.out];rfl
theorem JE(C:Bool)(f:Nat)(ih:jq C f)(st all r:List Nd)(I:Nat)(v:Value)(w:World)(bv:st.length+(f+1)=10)(c8:yI st)(c6:I<all.length)(cr:all.length≤40)(many sort:Int)(name j:ByteArray)(hn:all[I]=⟨3,name,j,many,sort⟩)(ha:ahead (aQ C) (f+1) st (all.drop I)=some r)(hx:lN w v all):Calls Tryz.prog 180 #[v,.int .i64 I] w fun e w'=>e=.returned (.tuple #[.string (bH (f+1) (all.drop I)).1,.int .i64 ((all.length-r.length:Nat):Int)])∧Below w.heap.size w w':=by
 have HX:=aa hx;have HI:=aa ih;have HL:=aa bv;obtain⟨b,o,cap,rfl,hc,hm,a2,cs⟩:=hx;have J:=a2.get I c6;have cl:=aa a2;have az:all.drop I=⟨3,name,j,many,sort⟩::all.drop (I+1):=by rw[←hn];exact bX c6
 rw[hn]at J;obtain⟨c0,c1,c2,c3,c4⟩:=J;dsimp only at c0 c1 c2 c3 c4;rw[az]at ha⊢;rw[cM (by simp) (by simp) (by simp)]at ha;obtain⟨T,hk⟩:aQ C ⟨3,name,j,many,sort⟩=true∧aS (ahead (aQ C) f (⟨3,name,j,many,sort⟩::st)) many.toNat [] (all.drop (I+1))=some r:=by
  split at ha;·rename_i h;exact⟨h,ha⟩
  ·cases ha
 have a3:yI (⟨3,name,j,many,sort⟩::st):=fun x hx h2=>by
  rcases List.mem_cons.1 hx with e|e;·rw[e]at h2;simp at h2
  ·exact c8 x e h2
 have c9:=rI T;have bx:1≤many.toNat∧many.toNat≤4∧many=(many.toNat:Int):=by simp only[aQ,fB,Bool.and_eq_true,decide_eq_true_eq]at T;omega
 have er:j.size≤20:=by simp only[aQ,Bool.and_eq_true]at T;exact fG T.1.1.1
 have ao:name.size≤20:=by
  simp only[aQ,Bool.and_eq_true]at T;cases C;·simp at T<;>first|exact fG T.2.1|exact fG T.2.1.2
  ·simp at T<;>(
    have h0:name.data.toList=[]:=by rw[←Go.ByteArray.toList_eq];simp[T]
    have h3:name.size=name.data.toList.length:=rfl;rw[h3,h0];simp)
 obtain⟨e1,s1,n1⟩:=kp (fun l r=>fq C f _ l r a3) _ _ _ _ hk;obtain⟨m,cz⟩:∃m,many.toNat=m:=⟨_,rfl⟩;rw[cz]at bx s1 hk;obtain⟨en,eo,d9⟩:=bx;subst d9;obtain⟨pre,a1⟩:∃pre,kG ⟨3,name,j,m,sort⟩++ba [123]=pre:=⟨_,rfl⟩;have ea:pre.size≤42:=by rw[←a1,fk,iM];simp only[List.length_cons,List.length_nil];have:(kG ⟨3,name,j,m,sort⟩).size≤41:=c9;omega
 have bp:=aa a1;have b3:=aa a3;have HK:=aa hk;have d6:Hid (eW (bW (bH f) m (all.drop (I+1))).1≤1720):=aa (by have h:=s1;rw[List.length_drop]at h;omega);have d5:Hid ((bH (f+1) (⟨3,name,j,m,sort⟩::all.drop (I+1))).1=pre++dV (bW (bH f) m (all.drop (I+1))).1++ba [125]):=aa (by rw[←bp.out];rfl);obtain⟨bi,bz⟩:∃bi,(bW (bH f) m (all.drop (I+1))).1=bi:=⟨_,rfl⟩;have ax:=aa bz;clear a2 hn az ha T a3 c9 c8 bv e1 s1 n1 cz a1 hk bz ih;go_enter Tryz.func180,Tryz.ntmps180;go_wp2_with fail;go_loopw[1,7,10](fun av tv kv wr=>∃(k p:Nat)(acc ls:List ByteArray),k≤m∧kv=.int .i64 k∧av=.int .i64 p∧p≤all.length∧tv=.string (pre++dV acc)∧acc.length=k∧aS (ahead (aQ C) f (⟨3,name,j,m,sort⟩::st)) (m-k) ls (all.drop p)=some r∧acc++(bW (bH f) (m-k) (all.drop p)).1=bi∧Below (w.heap.size+1) (w.alloc (.cells #[.int .i64 3,.string name,.string j,.int .i64 (m:Int),.int .i64 sort] 108)) wr)(fun _ _ kv _=>m-(intOf kv).toNat);case atStart=>refine⟨0,I+1,[],[],Nat.zero_le _,rfl,by go_num,by omega,?_,rfl,HK.out,ax.out,Below.refl _ _⟩;congr 1;rw[←bp.out];apply ju;simp[kG,dV,ba]
 case round=>
  obtain⟨k,p,acc,ls,hk,rfl,rfl,hp,rfl,br,bs,b9,ab⟩:=hrel;have ad:=aa br;have bm:=aa bs;have HT:=aa b9;have bk:=aa ab;have af:w.heap.size+1≤wr.heap.size:=by have:=ab.size;simpa using this
  have HW:Hid (Below w.heap.size w wr):=aa ((aC _ _).trans (ab.mono (by omega)));have ef:wr.cell? ⟨w.heap.size,3,none⟩=some (.int .i64 (m:Int)):=(ab.cell (p:=⟨w.heap.size,3,none⟩) (by simp)).trans (by simp);have d7:(dV acc).size≤1720:=by
   have h1:=mj acc;have h2:=d6.out;rw[ax.out,←b9]at h2;have h3:eW (acc++(bW (bH f) (m-k) (all.drop p)).1)=eW acc+eW (bW (bH f) (m-k) (all.drop p)).1:=by simp[eW]
   omega
  obtain⟨tc,bg⟩:∃tc,pre++dV acc=tc:=⟨_,rfl⟩;have ej:tc.size≤1762:=by rw[←bg,fk];omega
  rw[bg];have b4:=aa bg;clear br bs b9 ab bg d7;by_cases cy:k<m;·
   obtain⟨c,l1,r1,bb,ah,be,cv⟩:=sS cy bm.out;have a0:p<all.length:=by
    rcases Nat.lt_or_ge p all.length with h|h;·exact h
    ·rw[List.drop_of_length_le h]at bb;cases bb
   rw[bX a0]at bb;injection bb with b6 cx;have J:=(cl.out.get p a0).carry cs HW.out;rw[b6]at J;have a5:=aa J;have el:=aa ah;have cg:=aa be;have ch:=aa cv;have U:b<wr.heap.size:=Nat.lt_of_lt_of_le cs HW.out.size;have em:c.name.size≤20:=by simp only[cI,Bool.and_eq_true]at ah;exact fG ah.1.2
   have c7:0≤c.sort∧c.sort≤2:=by simp only[cI,jF,Bool.and_eq_true,decide_eq_true_eq]at ah;exact ah.2
   obtain⟨e1,s1⟩:=fq C f _ l1 r1 b3.out be;have cp:=aa (nG (tf:=bH f) (c:=c) (l1:=l1) cy);have a4:=aa (show all.drop p=c::l1 by rw[bX a0,b6,cx]);subst cx;obtain⟨t1,b8⟩:∃t1,(bH f (all.drop (p+1))).1=t1:=⟨_,rfl⟩;rw[b8]at s1;have ep:t1.size≤1720:=by rw[List.length_drop]at s1;omega
   have a9:=aa b8;have cf:=aa e1;obtain⟨sv,bf⟩:∃sv,eV c.sort=sv:=⟨_,rfl⟩;have eg:sv.size≤4:=by rw[←bf];exact rF _
   have cn:=aa bf;have cc:Hid (iW c t1=c.name++ba [40]++sv++ba [41,46]++t1):=aa (by rw[←bf];rfl);have bn:=aa (vI (dn (aQ C) f _ (all.drop (p+1)) r1 be));obtain⟨p2,c5⟩:∃p2,all.length-r1.length=p2:=⟨_,rfl⟩;have ag:=aa c5;have a8:=aa c7;clear ah be cv b6 J e1 s1 b8 bf c5 c7;rcases Nat.eq_zero_or_pos k with cu|cu;·
    subst cu;have df:Hid (acc=[]):=aa (List.length_eq_zero_iff.1 ad.out);go_wp2_with(go_at_call 180;refine(HI.out (⟨3,name,j,m,sort⟩::st) all r1 (p+1) _ _ _ (by have:=HL.out;simp;omega) b3.out (by omega) (by omega) cr cg.out (HX.out.carry HW.out)).mono ?_;rintro e w1⟨rfl,P⟩;rw[a9.out,ag.out];have b1:=aa (a5.out.carry U P);obtain⟨d0,d1,d2,d3,d4⟩:=a5.out.carry U P;have bL:=aa P;have ao:=P.size;have ay:b<w1.heap.size:=Nat.lt_of_lt_of_le U ao;clear P d0 d2 d3);have q1:¬9223372036854775807<tc.size+c.name.size:=by omega
    have eb:¬9223372036854775807≤tc.size+c.name.size:=by omega
    have ec:¬9223372036854775807<tc.size+c.name.size+1:=by omega
    have ed:¬9223372036854775806<tc.size+c.name.size:=by omega
    have q3:¬9223372036854775807<tc.size+c.name.size+1+sv.size:=by omega
    have q4:¬9223372036854775807<tc.size+c.name.size+1+sv.size+2:=by omega
    have ee:¬9223372036854775805<tc.size+c.name.size+1+sv.size:=by omega
    have q5:¬9223372036854775807<tc.size+c.name.size+1+sv.size+2+t1.size:=by omega
    go_region_with(go_at_call 184;refine(gD c.sort _ a8.out.1 a8.out.2).mono ?_;rintro e w2⟨rfl,ac⟩;rw[cn.out];have b2:Hid (bw w2 b (o+p*5) c):=aa (bw.carry (w:=w1.drew) (B:=w1.heap.size) b1.out ay ac);obtain⟨f0,f1,f2,f3,f4⟩:=b2.out;have b0:Hid (Below w1.heap.size w1 w2):=aa (Below.trans (Below.refl _ _).drew ac);clear ac f0 f2 f3);go_wp2_with fail;all_goals
     go_roundw;case rel=>
      have R:=bn.out;rw[ag.out]at R;refine⟨0+1,p2,acc++[iW c t1],ls++[c.name],by omega,by go_num,rfl,by have:=ag.out;omega,?_,by have:=ad.out;rw[List.length_append];simp only[List.length_cons,List.length_nil];omega,by rw[←R];exact ch.out,?_,bk.out.trans ((bL.out.mono af).trans (b0.out.mono (Nat.le_trans af ao)))⟩;·congr 1;rw[cc.out,←b4.out];rw[df.out];apply ju;simp[dV,ba]
      ·rw[←HT.out,a4.out,cp.out,a9.out,cf.out,←R];simp
     case measure=>simp[intOf];omega
   ·have dp:Hid (acc≠[]):=aa (fun h=>by have:=ad.out;rw[h]at this;simp at this;omega);have d8:(0:Int)<(k:Int):=by omega
    go_wp2_with(go_at_call 180;refine(HI.out (⟨3,name,j,m,sort⟩::st) all r1 (p+1) _ _ _ (by have:=HL.out;simp;omega) b3.out (by omega) (by omega) cr cg.out (HX.out.carry HW.out)).mono ?_;rintro e w1⟨rfl,P⟩;rw[a9.out,ag.out];have b1:=aa (a5.out.carry U P);obtain⟨d0,d1,d2,d3,d4⟩:=a5.out.carry U P;have bL:=aa P;have ao:=P.size;have ay:b<w1.heap.size:=Nat.lt_of_lt_of_le U ao;clear P d0 d2 d3);have q1:¬9223372036854775807<tc.size+1+c.name.size:=by omega
    have eb:¬9223372036854775807≤tc.size+1+c.name.size:=by omega
    have ec:¬9223372036854775807<tc.size+1+c.name.size+1:=by omega
    have ed:¬9223372036854775806<tc.size+1+c.name.size:=by omega
    have q3:¬9223372036854775807<tc.size+1+c.name.size+1+sv.size:=by omega
    have q4:¬9223372036854775807<tc.size+1+c.name.size+1+sv.size+2:=by omega
    have ee:¬9223372036854775805<tc.size+1+c.name.size+1+sv.size:=by omega
    have q5:¬9223372036854775807<tc.size+1+c.name.size+1+sv.size+2+t1.size:=by omega
    go_region_with(go_at_call 184;refine(gD c.sort _ a8.out.1 a8.out.2).mono ?_;rintro e w2⟨rfl,ac⟩;rw[cn.out];have b2:Hid (bw w2 b (o+p*5) c):=aa (bw.carry (w:=w1.drew) (B:=w1.heap.size) b1.out ay ac);obtain⟨f0,f1,f2,f3,f4⟩:=b2.out;have b0:Hid (Below w1.heap.size w1 w2):=aa (Below.trans (Below.refl _ _).drew ac);clear ac f0 f2 f3);go_wp2_with fail;all_goals
     go_roundw;case rel=>
      have R:=bn.out;rw[ag.out]at R;refine⟨k+1,p2,acc++[iW c t1],ls++[c.name],by omega,by go_num,rfl,by have:=ag.out;omega,?_,by have:=ad.out;rw[List.length_append];simp only[List.length_cons,List.length_nil];omega,by rw[←R];exact ch.out,?_,bk.out.trans ((bL.out.mono af).trans (b0.out.mono (Nat.le_trans af ao)))⟩;·congr 1;rw[cc.out,←b4.out];rw[la dp.out];apply ju;simp[ba]
      ·rw[←HT.out,a4.out,cp.out,a9.out,cf.out,←R];simp
     case measure=>simp[intOf];omega
  ·have b7:k=m:=by omega
   have b5:Hid (acc=bi):=aa (by have:=HT.out;rw[b7,Nat.sub_self]at this;simpa[bW]using this);have a4:Hid (all.drop p=r):=aa (by have:=bm.out;rw[b7,Nat.sub_self]at this;simpa[aS]using this);have dz:Hid (p=all.length-r.length):=aa (by have h:=congrArg List.length a4.out;rw[List.length_drop]at h;omega);have d8:¬(k:Int)<(m:Int):=by omega
   clear b7;go_wp2_with fail;go_ret2;refine⟨?_,HW.out⟩;rw[d5.out,ax.out,←b5.out,b4.out,←dz.out];rfl
theorem JF(C:Bool)(f:Nat)(ih:jq C f)(st all r:List Nd)(I:Nat)(v:Value)(w:World)(bv:st.length+(f+1)=10)(c8:yI st)(c6:I<all.length)(cr:all.length≤40)(many sort:Int)(name j:ByteArray)(hn:all[I]=⟨5,name,j,many,sort⟩)(ha:ahead (aQ C) (f+1) st (all.drop I)=some r)(hx:lN w v all):Calls Tryz.prog 180 #[v,.int .i64 I] w fun e w'=>e=.returned (.tuple #[.string (bH (f+1) (all.drop I)).1,.int .i64 ((all.length-r.length:Nat):Int)])∧Below w.heap.size w w':=by
 have HX:=aa hx;have HI:=aa ih;have HL:=aa bv;obtain⟨b,o,cap,rfl,hc,hm,a2,cs⟩:=hx;have J:=a2.get I c6;have cl:=aa a2;have az:all.drop I=⟨5,name,j,many,sort⟩::all.drop (I+1):=by rw[←hn];exact bX c6
 rw[hn]at J;obtain⟨c0,c1,c2,c3,c4⟩:=J;dsimp only at c0 c1 c2 c3 c4;rw[az]at ha⊢;rw[cM (by simp) (by simp) (by simp)]at ha;obtain⟨T,hk⟩:aQ C ⟨5,name,j,many,sort⟩=true∧aS (ahead (aQ C) f (⟨5,name,j,many,sort⟩::st)) many.toNat [] (all.drop (I+1))=some r:=by
  split at ha;·rename_i h;exact⟨h,ha⟩
  ·cases ha
 have a3:yI (⟨5,name,j,many,sort⟩::st):=fun x hx h2=>by
  rcases List.mem_cons.1 hx with e|e;·rw[e]at h2;simp at h2
  ·exact c8 x e h2
 have c9:=rI T;have bx:1≤many.toNat∧many.toNat≤4∧many=(many.toNat:Int):=by simp only[aQ,fB,Bool.and_eq_true,decide_eq_true_eq]at T;omega
 have er:j.size≤20:=by simp only[aQ,Bool.and_eq_true]at T;exact fG T.1.1.1
 have ao:name.size≤20:=by
  simp only[aQ,Bool.and_eq_true]at T;cases C;·simp at T<;>first|exact fG T.2.1|exact fG T.2.1.2
  ·simp at T<;>(
    have h0:name.data.toList=[]:=by rw[←Go.ByteArray.toList_eq];simp[T]
    have h3:name.size=name.data.toList.length:=rfl;rw[h3,h0];simp)
 obtain⟨e1,s1,n1⟩:=kp (fun l r=>fq C f _ l r a3) _ _ _ _ hk;obtain⟨m,cz⟩:∃m,many.toNat=m:=⟨_,rfl⟩;rw[cz]at bx s1 hk;obtain⟨en,eo,d9⟩:=bx;subst d9;obtain⟨pre,a1⟩:∃pre,kG ⟨5,name,j,m,sort⟩++ba [123]=pre:=⟨_,rfl⟩;have ea:pre.size≤42:=by rw[←a1,fk,iM];simp only[List.length_cons,List.length_nil];have:(kG ⟨5,name,j,m,sort⟩).size≤41:=c9;omega
 have bp:=aa a1;have b3:=aa a3;have HK:=aa hk;have d6:Hid (eW (bW (bH f) m (all.drop (I+1))).1≤1720):=aa (by have h:=s1;rw[List.length_drop]at h;omega);have d5:Hid ((bH (f+1) (⟨5,name,j,m,sort⟩::all.drop (I+1))).1=pre++dV (bW (bH f) m (all.drop (I+1))).1++ba [125]):=aa (by rw[←bp.out];rfl);obtain⟨bi,bz⟩:∃bi,(bW (bH f) m (all.drop (I+1))).1=bi:=⟨_,rfl⟩;have ax:=aa bz;clear a2 hn az ha T a3 c9 c8 bv e1 s1 n1 cz a1 hk bz ih;go_enter Tryz.func180,Tryz.ntmps180;go_wp2_with fail;go_loopw[1,7,10](fun av tv kv wr=>∃(k p:Nat)(acc ls:List ByteArray),k≤m∧kv=.int .i64 k∧av=.int .i64 p∧p≤all.length∧tv=.string (pre++dV acc)∧acc.length=k∧aS (ahead (aQ C) f (⟨5,name,j,m,sort⟩::st)) (m-k) ls (all.drop p)=some r∧acc++(bW (bH f) (m-k) (all.drop p)).1=bi∧Below (w.heap.size+1) (w.alloc (.cells #[.int .i64 5,.string name,.string j,.int .i64 (m:Int),.int .i64 sort] 108)) wr)(fun _ _ kv _=>m-(intOf kv).toNat);case atStart=>refine⟨0,I+1,[],[],Nat.zero_le _,rfl,by go_num,by omega,?_,rfl,HK.out,ax.out,Below.refl _ _⟩;congr 1;rw[←bp.out];apply ju;simp[kG,dV,ba]
 case round=>
  obtain⟨k,p,acc,ls,hk,rfl,rfl,hp,rfl,br,bs,b9,ab⟩:=hrel;have ad:=aa br;have bm:=aa bs;have HT:=aa b9;have bk:=aa ab;have af:w.heap.size+1≤wr.heap.size:=by have:=ab.size;simpa using this
  have HW:Hid (Below w.heap.size w wr):=aa ((aC _ _).trans (ab.mono (by omega)));have ef:wr.cell? ⟨w.heap.size,3,none⟩=some (.int .i64 (m:Int)):=(ab.cell (p:=⟨w.heap.size,3,none⟩) (by simp)).trans (by simp);have d7:(dV acc).size≤1720:=by
   have h1:=mj acc;have h2:=d6.out;rw[ax.out,←b9]at h2;have h3:eW (acc++(bW (bH f) (m-k) (all.drop p)).1)=eW acc+eW (bW (bH f) (m-k) (all.drop p)).1:=by simp[eW]
   omega
  obtain⟨tc,bg⟩:∃tc,pre++dV acc=tc:=⟨_,rfl⟩;have ej:tc.size≤1762:=by rw[←bg,fk];omega
  rw[bg];have b4:=aa bg;clear br bs b9 ab bg d7;by_cases cy:k<m;·
   obtain⟨c,l1,r1,bb,ah,be,cv⟩:=sS cy bm.out;have a0:p<all.length:=by
    rcases Nat.lt_or_ge p all.length with h|h;·exact h
    ·rw[List.drop_of_length_le h]at bb;cases bb
   rw[bX a0]at bb;injection bb with b6 cx;have J:=(cl.out.get p a0).carry cs HW.out;rw[b6]at J;have a5:=aa J;have el:=aa ah;have cg:=aa be;have ch:=aa cv;have U:b<wr.heap.size:=Nat.lt_of_lt_of_le cs HW.out.size;have em:c.name.size≤20:=by simp only[cI,Bool.and_eq_true]at ah;exact fG ah.1.2
   have c7:0≤c.sort∧c.sort≤2:=by simp only[cI,jF,Bool.and_eq_true,decide_eq_true_eq]at ah;exact ah.2
   obtain⟨e1,s1⟩:=fq C f _ l1 r1 b3.out be;have cp:=aa (nG (tf:=bH f) (c:=c) (l1:=l1) cy);have a4:=aa (show all.drop p=c::l1 by rw[bX a0,b6,cx]);subst cx;obtain⟨t1,b8⟩:∃t1,(bH f (all.drop (p+1))).1=t1:=⟨_,rfl⟩;rw[b8]at s1;have ep:t1.size≤1720:=by rw[List.length_drop]at s1;omega
   have a9:=aa b8;have cf:=aa e1;obtain⟨sv,bf⟩:∃sv,eV c.sort=sv:=⟨_,rfl⟩;have eg:sv.size≤4:=by rw[←bf];exact rF _
   have cn:=aa bf;have cc:Hid (iW c t1=c.name++ba [40]++sv++ba [41,46]++t1):=aa (by rw[←bf];rfl);have bn:=aa (vI (dn (aQ C) f _ (all.drop (p+1)) r1 be));obtain⟨p2,c5⟩:∃p2,all.length-r1.length=p2:=⟨_,rfl⟩;have ag:=aa c5;have a8:=aa c7;clear ah be cv b6 J e1 s1 b8 bf c5 c7;rcases Nat.eq_zero_or_pos k with cu|cu;·
    subst cu;have df:Hid (acc=[]):=aa (List.length_eq_zero_iff.1 ad.out);go_wp2_with(go_at_call 180;refine(HI.out (⟨5,name,j,m,sort⟩::st) all r1 (p+1) _ _ _ (by have:=HL.out;simp;omega) b3.out (by omega) (by omega) cr cg.out (HX.out.carry HW.out)).mono ?_;rintro e w1⟨rfl,P⟩;rw[a9.out,ag.out];have b1:=aa (a5.out.carry U P);obtain⟨d0,d1,d2,d3,d4⟩:=a5.out.carry U P;have bL:=aa P;have ao:=P.size;have ay:b<w1.heap.size:=Nat.lt_of_lt_of_le U ao;clear P d0 d2 d3);have q1:¬9223372036854775807<tc.size+c.name.size:=by omega
    have eb:¬9223372036854775807≤tc.size+c.name.size:=by omega
    have ec:¬9223372036854775807<tc.size+c.name.size+1:=by omega
    have ed:¬9223372036854775806<tc.size+c.name.size:=by omega
    have q3:¬9223372036854775807<tc.size+c.name.size+1+sv.size:=by omega
    have q4:¬9223372036854775807<tc.size+c.name.size+1+sv.size+2:=by omega
    have ee:¬9223372036854775805<tc.size+c.name.size+1+sv.size:=by omega
    have q5:¬9223372036854775807<tc.size+c.name.size+1+sv.size+2+t1.size:=by omega
    go_region_with(go_at_call 184;refine(gD c.sort _ a8.out.1 a8.out.2).mono ?_;rintro e w2⟨rfl,ac⟩;rw[cn.out];have b2:Hid (bw w2 b (o+p*5) c):=aa (bw.carry (w:=w1.drew) (B:=w1.heap.size) b1.out ay ac);obtain⟨f0,f1,f2,f3,f4⟩:=b2.out;have b0:Hid (Below w1.heap.size w1 w2):=aa (Below.trans (Below.refl _ _).drew ac);clear ac f0 f2 f3);go_wp2_with fail;all_goals
     go_roundw;case rel=>
      have R:=bn.out;rw[ag.out]at R;refine⟨0+1,p2,acc++[iW c t1],ls++[c.name],by omega,by go_num,rfl,by have:=ag.out;omega,?_,by have:=ad.out;rw[List.length_append];simp only[List.length_cons,List.length_nil];omega,by rw[←R];exact ch.out,?_,bk.out.trans ((bL.out.mono af).trans (b0.out.mono (Nat.le_trans af ao)))⟩;·congr 1;rw[cc.out,←b4.out];rw[df.out];apply ju;simp[dV,ba]
      ·rw[←HT.out,a4.out,cp.out,a9.out,cf.out,←R];simp
     case measure=>simp[intOf];omega
   ·have dp:Hid (acc≠[]):=aa (fun h=>by have:=ad.out;rw[h]at this;simp at this;omega);have d8:(0:Int)<(k:Int):=by omega
    go_wp2_with(go_at_call 180;refine(HI.out (⟨5,name,j,m,sort⟩::st) all r1 (p+1) _ _ _ (by have:=HL.out;simp;omega) b3.out (by omega) (by omega) cr cg.out (HX.out.carry HW.out)).mono ?_;rintro e w1⟨rfl,P⟩;rw[a9.out,ag.out];have b1:=aa (a5.out.carry U P);obtain⟨d0,d1,d2,d3,d4⟩:=a5.out.carry U P;have bL:=aa P;have ao:=P.size;have ay:b<w1.heap.size:=Nat.lt_of_lt_of_le U ao;clear P d0 d2 d3);have q1:¬9223372036854775807<tc.size+1+c.name.size:=by omega
    have eb:¬9223372036854775807≤tc.size+1+c.name.size:=by omega
    have ec:¬9223372036854775807<tc.size+1+c.name.size+1:=by omega
    have ed:¬9223372036854775806<tc.size+1+c.name.size:=by omega
    have q3:¬9223372036854775807<tc.size+1+c.name.size+1+sv.size:=by omega
    have q4:¬9223372036854775807<tc.size+1+c.name.size+1+sv.size+2:=by omega
    have ee:¬9223372036854775805<tc.size+1+c.name.size+1+sv.size:=by omega
    have q5:¬9223372036854775807<tc.size+1+c.name.size+1+sv.size+2+t1.size:=by omega
    go_region_with(go_at_call 184;refine(gD c.sort _ a8.out.1 a8.out.2).mono ?_;rintro e w2⟨rfl,ac⟩;rw[cn.out];have b2:Hid (bw w2 b (o+p*5) c):=aa (bw.carry (w:=w1.drew) (B:=w1.heap.size) b1.out ay ac);obtain⟨f0,f1,f2,f3,f4⟩:=b2.out;have b0:Hid (Below w1.heap.size w1 w2):=aa (Below.trans (Below.refl _ _).drew ac);clear ac f0 f2 f3);go_wp2_with fail;all_goals
     go_roundw;case rel=>
      have R:=bn.out;rw[ag.out]at R;refine⟨k+1,p2,acc++[iW c t1],ls++[c.name],by omega,by go_num,rfl,by have:=ag.out;omega,?_,by have:=ad.out;rw[List.length_append];simp only[List.length_cons,List.length_nil];omega,by rw[←R];exact ch.out,?_,bk.out.trans ((bL.out.mono af).trans (b0.out.mono (Nat.le_trans af ao)))⟩;·congr 1;rw[cc.out,←b4.out];rw[la dp.out];apply ju;simp[ba]
      ·rw[←HT.out,a4.out,cp.out,a9.out,cf.out,←R];simp
     case measure=>simp[intOf];omega
  ·have b7:k=m:=by omega
   have b5:Hid (acc=bi):=aa (by have:=HT.out;rw[b7,Nat.sub_self]at this;simpa[bW]using this);have a4:Hid (all.drop p=r):=aa (by have:=bm.out;rw[b7,Nat.sub_self]at this;simpa[aS]using this);have dz:Hid (p=all.length-r.length):=aa (by have h:=congrArg List.length a4.out;rw[List.length_drop]at h;omega);have d8:¬(k:Int)<(m:Int):=by omega
   clear b7;go_wp2_with fail;go_ret2;refine⟨?_,HW.out⟩;rw[d5.out,ax.out,←b5.out,b4.out,←dz.out];rfl
theorem yD(j:Bool)(f:Nat):jq j f:=by
 induction f with
  |zero=>
   intro st all r pos a v w J I ha U C P T;subst ha;have l:pos<all.length:=by
    rcases Nat.lt_or_ge pos all.length with h|h;·exact h
    ·rw[List.drop_of_length_le h]at P;cases P
   cases R:all[pos]with
    |mk op name peer many sort=>
     by_cases o0:op=0;·subst o0;exact Fh j 0 st all r pos v w I l C many sort name peer R P T
     ·by_cases o1:op=1;·subst o1;exact Fi j 0 st all r pos v w I l C many sort name peer R P T
      ·rw[bX l,R,ct o0 o1]at P;cases P
  |succ f ih=>
   intro st all r pos a v w J I ha U C P T;subst ha;have l:pos<all.length:=by
    rcases Nat.lt_or_ge pos all.length with h|h;·exact h
    ·rw[List.drop_of_length_le h]at P;cases P
   cases R:all[pos]with
    |mk op name peer many sort=>
     by_cases o0:op=0;·subst o0;exact Fh j (f+1) st all r pos v w I l C many sort name peer R P T
     ·by_cases o1:op=1;·subst o1;exact Fi j (f+1) st all r pos v w I l C many sort name peer R P T
      ·by_cases o2:op=2;·subst o2;exact JD j f ih st all r pos v w J I l C many sort name peer R P T
       ·by_cases o3:op=3;·subst o3;exact JE j f ih st all r pos v w J I l C many sort name peer R P T
        ·by_cases o5:op=5;·subst o5;exact JF j f ih st all r pos v w J I l C many sort name peer R P T
         ·by_cases o6:op=6;·subst o6;exact JG j f ih st all r pos v w J I l C many sort name peer R P T
          ·exfalso;rw[bX l,R,vj o0 o1 o2 (by cases j<;>simp[aQ,o3,o5,o6])]at P;cases P
def kH(j:Bool)(ns:List Nd):ByteArray:=if cL j ns then(bH 10 ns).1 else ByteArray.empty
theorem qR{j:Bool}{ns:List Nd}(h:cL j ns=true):ahead (aQ j) 10 [] ns=some []∧ns.length≤40:=by rw[cL]at h;simp only[Bool.and_eq_true,decide_eq_true_eq,beq_iff_eq]at h;refine⟨?_,h.1⟩;cases l:ahead (aQ j) 10 [] ns with|none=>rw[l]at h;simp at h|some r=>rw[l]at h;simp at h;rw[h.2.1]
theorem zX{j:Bool}{ns:List Nd}(h:cL j ns=true):(bH 10 ns).1.size≤1720:=by obtain⟨l,C⟩:=qR h;have:=(fq j 10 [] ns [] (fun _ h=>by cases h) l).2;simp at this;omega
theorem Hb(j:Bool)(ns:List Nd)(v:Value)(w:World)(U:∀n∈ns,n.fit)(hv:bR w w.heap.size v ns):Calls Tryz.prog 158 #[v,.bool j] w fun e w'=>e=.returned (.string (kH j ns))∧Below w.heap.size w w':=by
 have HV:=aa hv;have HF:=aa U;have az:=hv.jc;obtain⟨ao,cap,rfl,hc,hm,hr⟩:=hv;obtain⟨rb,af⟩:∃rb,cL j ns=rb:=⟨_,rfl⟩;have l:=aa af;clear U af;cases rb;·
  have HE:Hid (kH j ns=⟨#[]⟩):=aa (by rw[kH,l.out];rfl);clear hr;by_cases ay:ns.length≤400;·go_enter Tryz.func158,Tryz.ntmps158;go_wp2_with(go_at_call 83;refine(rE j ns _ _ HF.out HV.out).mono ?_;rintro e w1⟨rfl,I⟩;rw[l.out];have C:=aa I;clear I);go_ret;exact⟨dY HE.out,C.out⟩
  ·go_enter Tryz.func158,Tryz.ntmps158;go_wp2_with fail;go_ret;exact⟨dY HE.out,Below.refl _ _⟩
 ·have HE:Hid (kH j ns=(bH 10 ns).1):=aa (by rw[kH,l.out];rfl);obtain⟨J,ac⟩:=qR l.out;have ad:ns≠[]:=fun h=>by rw[h]at J;cases J
  obtain⟨b,o,rfl,ax,P⟩:=hr ad;have ah:Hid (lN w (.slice (some ⟨b,o,none⟩) ns.length cap) ns):=aa ⟨b,o,cap,rfl,hc,by omega,P,ax⟩;have ag:=aa J;obtain⟨t1,R⟩:∃t1,(bH 10 ns).1=t1:=⟨_,rfl⟩;have T:=aa R;have a0:t1.size≤1720:=by rw[←R];exact zX l.out
  clear J P ad R hr;go_enter Tryz.func158,Tryz.ntmps158;go_wp2_with(first|(go_at_call 83;refine(rE j ns _ _ HF.out HV.out).mono ?_;rintro e w1⟨rfl,I⟩;rw[l.out];have C:=aa I;clear I)|(go_at_call 180;refine(yD j 10 [] ns [] 0 0 _ _ rfl (fun _ h=>by cases h) rfl (Nat.zero_le _) ac (by rw[List.drop_zero];exact ag.out) (ah.out.carry C.out)).mono ?_;rintro e w2⟨rfl,ab⟩;rw[List.drop_zero,T.out];have av:=aa ab;clear ab));go_ret;exact⟨dY (by rw[HE.out,T.out]),C.out.trans (av.out.mono C.out.size)⟩
end Go.Proofs.YtlbcnmcfljaijaaGreat
