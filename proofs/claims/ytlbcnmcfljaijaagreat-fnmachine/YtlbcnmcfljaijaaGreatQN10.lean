import Derived.Test.YtlbcnmcfljaijaaGreatQN06
import Derived.Test.YtlbcnmcfljaijaaGreatQN00
import Derived.Deep.DrawnRows
import Derived.Test.YtlbcnmcfljaijaaGreatQN07
import Derived.RegionTactic
import Derived.BigRegion
import Derived.Lib.Strings
import Derived.Test.YtlbcnmcfljaijaaGreatQN05
namespace Go.Proofs.YtlbcnmcfljaijaaGreat
open Go.RowKit
set_option linter.unusedSimpArgs false
set_option linter.unusedVariables false
set_option maxHeartbeats 4000000
set_option maxRecDepth 100000
section
attribute [local go_sem ↓] Go.wp_at_zero Go.wp_at_succ
theorem mE(m:aN)(v:Value)(w:World)(hf:m.fit)(hv:bu w v m):Calls Tryz.prog 25 #[v] w fun e w'=>e=.returned (.bool (aW m))∧Below w.heap.size w w':=by
 have HF:=aa hf;obtain⟨sv,ev,rfl,hs,he⟩:=hv;have HS:=aa hs;have HE:=aa he;have ep:=hs.jc;have eg:=he.jc;obtain⟨sa,sc,rfl,en,eo,d0⟩:=hs;obtain⟨ea,ec,rfl,ee,ef,cz⟩:=he;have cp:=aa d0;have d6:=aa cz;clear d0 cz hf;obtain⟨i1,c4⟩:∃i1,fj (m.aj.length:Int) 1 40=i1:=⟨_,rfl⟩;obtain⟨i2,c5⟩:∃i2,fj m.start 0 ((m.aj.length:Int)-1)=i2:=⟨_,rfl⟩;have ay:=aa c4;have bm:=aa c5;clear c4 c5;cases i1;·have HM:Hid (aW m=false):=aa (by rw[aW,iF,ay.out];rfl);go_enter Tryz.func25,Tryz.ntmps25;go_wp2_with(go_at_call 59;refine(oZ _ _ _ _).mono ?_;rintro e w'⟨rfl,rfl⟩;rw[ay.out]);go_ret;exact⟨aF HM.out,ai _ _⟩
 ·have eb:1≤m.aj.length∧m.aj.length≤40:=by have:=ay.out;simp[fj]at this;omega
  by_cases cu:m.al.length≤80;·
   cases i2;·have HM:Hid (aW m=false):=aa (by rw[aW,iF,bm.out];simp);go_enter Tryz.func25,Tryz.ntmps25;go_wp2_with(first|(go_at_call_of 59 m.start;refine(oZ m.start _ _ _).mono ?_;rintro e w'⟨rfl,rfl⟩;rw[bm.out])|(go_at_call_of 59 m.aj.length;refine(oZ _ _ _ _).mono ?_;rintro e w'⟨rfl,rfl⟩;rw[ay.out]));go_ret;exact⟨aF HM.out,ai _ _⟩
   ·have d7:Hid (iF m=true):=aa (by rw[iF,ay.out,bm.out];simp[cu]);go_enter Tryz.func25,Tryz.ntmps25;go_wp2_with(first|(go_at_call_of 59 m.start;refine(oZ m.start _ _ _).mono ?_;rintro e w'⟨rfl,rfl⟩;rw[bm.out])|(go_at_call_of 59 m.aj.length;refine(oZ _ _ _ _).mono ?_;rintro e w'⟨rfl,rfl⟩;rw[ay.out]));go_loopw[4](fun i wr=>∃k:Nat,k≤m.aj.length∧i=.int .i64 k∧(m.aj.take k).all iR=true∧Below (w.heap.size+1) (w.alloc (.cells #[.slice sa m.aj.length sc,.slice ea m.al.length ec,.int .i64 m.start] 28)) wr)(fun i _=>m.aj.length-(intOf i).toNat);case atStart=>exact⟨0,Nat.zero_le _,rfl,rfl,Below.refl _ _⟩
    case round=>
     obtain⟨k,hk,rfl,bz,I⟩:=hrel;have HA:=aa bz;have ah:=aa I;have a3:w.heap.size+1≤wr.heap.size:=by have:=I.size;simpa using this
     have HW:Hid (Below w.heap.size w wr):=aa ((ai _ _).trans (I.mono (by omega)));have b0:wr.cell? ⟨w.heap.size,0,none⟩=some (.slice sa m.aj.length sc):=(I.cell (p:=⟨w.heap.size,0,none⟩) (by simp)).trans (by simp);have b1:wr.cell? ⟨w.heap.size,1,none⟩=some (.slice ea m.al.length ec):=(I.cell (p:=⟨w.heap.size,1,none⟩) (by simp)).trans (by simp);have b2:wr.cell? ⟨w.heap.size,2,none⟩=some (.int .i64 m.start):=(I.cell (p:=⟨w.heap.size,2,none⟩) (by simp)).trans (by simp);clear bz I;by_cases bg:k<m.aj.length;·
      obtain⟨b,o,rfl,bv,af⟩:=cp.out (by intro h;simp[h]at bg);have ad:=(af.get k bg).carry bv HW.out;obtain⟨x1,bk⟩:∃x1,x1=m.aj[k]:=⟨_,rfl⟩;rw[←bk]at ad;have HN:=aa bk;have HP:=aa (show x1.peer.size≤maxLen by rw[bk];exact Nat.le_trans (HF.out.1 _ (List.getElem_mem bg)) (by unfold maxLen;omega));have a1:Hid (iR x1=false→aW m=false):=aa (fun h=>by
       rw[aW];have:m.aj.all iR=false:=by rw[←Bool.not_eq_true];intro h2;have:=List.all_eq_true.1 h2 x1 (by rw[bk];exact List.getElem_mem bg);rw[h]at this;cases this
       rw[this];simp);have bp:Hid (iR x1=true→(m.aj.take (k+1)).all iR=true):=aa (fun h=>by rw[List.take_succ_eq_append_getElem bg,List.all_append,HA.out,←HN.out];simp[h]);have cr:=aa (show iR x1=if x1.kind==0 then x1.peer.toList==[]else du x1.peer&&fj x1.kind 0 2 from rfl);clear bk af;obtain⟨c0,c1⟩:=ad;have cy:b<wr.heap.size:=World.block_lt_of_cell? wr _ c0;obtain⟨kz,bx⟩:∃kz,(x1.kind==0)=kz:=⟨_,rfl⟩;obtain⟨pe,d8⟩:∃pe,(x1.peer.toList==[])=pe:=⟨_,rfl⟩;obtain⟨nb,c8⟩:∃nb,du x1.peer=nb:=⟨_,rfl⟩;obtain⟨ib,c6⟩:∃ib,fj x1.kind 0 2=ib:=⟨_,rfl⟩;have az:=aa bx;have ch:=aa d8;have b6:=aa c8;have bn:=aa c6;clear c8 c6;have H0:Hid (kz=true→ib=true):=aa (fun h=>by rw[←bn.out,fj,show x1.kind=0 from by have:=az.out;rw[h]at this;simpa using this];rfl);have el:(x1.kind !=0)=!kz:=by rw[bne,bx]
      cases kz;all_goals cases pe
      all_goals cases nb
      all_goals cases ib
      all_goals
       first
        |(exfalso;exact absurd (H0.out rfl) (by decide))|
         (
          go_wp2_with(first|(go_at_call 60;refine(mY x1.peer _ HP.out).mono ?_;rintro e w'⟨rfl,rfl⟩;rw[b6.out])|(go_at_call_of 59 x1.kind;refine(oZ x1.kind _ _ _).mono ?_;rintro e w'⟨rfl,rfl⟩;rw[bn.out]));first
           |(go_ret;refine⟨aF (a1.out (by rw[cr.out,az.out,ch.out,b6.out,bn.out];rfl)),HW.out.trans ((ai _ _).mono (by omega))⟩)|
            (
             go_roundw;case rel=>exact⟨k+1,by omega,by go_num,bp.out (by rw[cr.out,az.out,ch.out,b6.out,bn.out];rfl),ah.out.trans ((ai _ _).mono a3)⟩
             case measure=>simp[intOf];omega))
     ·have cg:Hid (m.aj.all iR=true):=aa (by have:=HA.out;rwa[List.take_of_length_le (by omega)]at this);go_wp2_with fail;go_loopw[6](fun i d9=>∃k2:Nat,k2≤m.al.length∧i=.int .i64 k2∧(List.range k2).all (dF m)=true∧Below (w.heap.size+1) (w.alloc (.cells #[.slice sa m.aj.length sc,.slice ea m.al.length ec,.int .i64 m.start] 28)) d9)(fun i _=>m.al.length-(intOf i).toNat);case atStart=>exact⟨0,Nat.zero_le _,rfl,rfl,ah.out⟩
      case round=>
       clear b0 b1 b2 ah HW a3;obtain⟨k2,ej,rfl,bf,I⟩:=hrel;have cf:=aa bf;have ah:=aa I;have a3:w.heap.size+1≤wr.heap.size:=by have:=I.size;simpa using this
       have HW:Hid (Below w.heap.size w wr):=aa ((ai _ _).trans (I.mono (by omega)));have b0:wr.cell? ⟨w.heap.size,0,none⟩=some (.slice sa m.aj.length sc):=(I.cell (p:=⟨w.heap.size,0,none⟩) (by simp)).trans (by simp);have b1:wr.cell? ⟨w.heap.size,1,none⟩=some (.slice ea m.al.length ec):=(I.cell (p:=⟨w.heap.size,1,none⟩) (by simp)).trans (by simp);clear bf I;by_cases ac:k2<m.al.length;·
        obtain⟨b,o,rfl,bv,af⟩:=d6.out (by intro h;simp[h]at ac);have ad:=(af.get k2 ac).carry bv HW.out;have cn:Hid (∀j(hj:j<m.al.length),eP wr b (o+j*4) m.al[j]):=aa (fun j hj=>(af.get j hj).carry bv HW.out);obtain⟨e1,ax⟩:∃e1,e1=m.al[k2]:=⟨_,rfl⟩;rw[←ax]at ad;have HN:=aa ax;have av:=aa (show e1.label.size≤maxLen by rw[ax];exact Nat.le_trans (HF.out.2.1 _ (List.getElem_mem ac)) (by unfold maxLen;omega));have a1:Hid (dF m k2=false→aW m=false):=aa (fun h=>by
         rw[aW];have:(List.range m.al.length).all (dF m)=false:=by rw[←Bool.not_eq_true];intro h2;have:=List.all_eq_true.1 h2 k2 (List.mem_range.2 ac);rw[h]at this;cases this
         rw[this];simp);have bp:Hid (dF m k2=true→(List.range (k2+1)).all (dF m)=true):=aa (fun h=>by rw[List.range_succ,List.all_append,cf.out];simp[h]);have b3:Hid (dF m k2=(pV m e1&&(match k2,m.al[k2-1]? with|0,_=>true|_+1,some e'=>a7 e' e1|_+1,none=>true))):=aa (by rw[dF,List.getElem?_eq_getElem ac,←ax];rfl);have a0:Hid (pV m e1=(fj e1.src 0 ((m.aj.length:Int)-1)&&(fj e1.dst 0 ((m.aj.length:Int)-1)&&(du e1.label&&(fj e1.sort 0 2&&!(eF m e1.src==0)))))):=aa rfl;have a5:Hid (pV m e1=false→aW m=false):=aa (fun h=>a1.out (by rw[b3.out,h];rfl));clear ax af;obtain⟨c0,c1,c2,c3⟩:=ad;have cy:b<wr.heap.size:=World.block_lt_of_cell? wr _ c0;obtain⟨q1,c9⟩:∃q1,fj e1.src 0 ((m.aj.length:Int)-1)=q1:=⟨_,rfl⟩;obtain⟨q2,df⟩:∃q2,fj e1.dst 0 ((m.aj.length:Int)-1)=q2:=⟨_,rfl⟩;obtain⟨q3,dp⟩:∃q3,du e1.label=q3:=⟨_,rfl⟩;obtain⟨q4,dz⟩:∃q4,fj e1.sort 0 2=q4:=⟨_,rfl⟩;have R:=aa c9;have T:=aa df;have U:=aa dp;have ab:=aa dz;clear c9 df dp dz;have er:IntKind.i64.wrap ((m.aj.length:Int)-1)=(m.aj.length:Int)-1:=by rw[IntKind.wrap_i64];omega
        have ao:Hid (∀W,W=wr.alloc (.cells #[.int .i64 e1.src,.string e1.label,.int .i64 e1.sort,.int .i64 e1.dst] 61)→Below w.heap.size w W):=aa (fun W l=>by rw[l];exact HW.out.trans ((ai _ _).mono (by omega)));have b4:Hid (∀W,W=wr.alloc (.cells #[.int .i64 e1.src,.string e1.label,.int .i64 e1.sort,.int .i64 e1.dst] 61)→Below (w.heap.size+1) (w.alloc (.cells #[.slice sa m.aj.length sc,.slice (some ⟨b,o,none⟩) m.al.length ec,.int .i64 m.start] 28)) W):=aa (fun W l=>by rw[l];exact ah.out.trans ((ai _ _).mono a3));cases q1;·
         go_wp2_with fail;refine aK (by kernel_rfl) (by kernel_rfl) (fun W l=>?_);have ag:=aH W;have f0:=ae (w:=W) (b:=wr.heap.size) (o:=0) (v:=.int .i64 e1.src) (by rw[l];simp);have J:=aa (ao.out W l);clear l;repeat(go_big_quiet_step(first|(go_at_call_of 59 e1.src;exact aP (dt R.out _))|(go_at_call_of 59 e1.dst;exact aP (dt T.out _))|(go_at_call 60;exact aP (dZ U.out av.out _))|(go_at_call 61;exact aP (fC ab.out _))))
         refine wpQuiet_nil ?_;intro w1 C;have P:=aa C;clear C;go_wp2_with fail;go_ret;exact⟨aF (a5.out (by rw[a0.out,R.out];simp)),J.out.trans (P.out.mono J.out.size)⟩
        ·cases q2;·
          go_wp2_with fail;refine aK (by kernel_rfl) (by kernel_rfl) (fun W l=>?_);have ag:=aH W;have f0:=ae (w:=W) (b:=wr.heap.size) (o:=0) (v:=.int .i64 e1.src) (by rw[l];simp);have f3:=ae (w:=W) (b:=wr.heap.size) (o:=3) (v:=.int .i64 e1.dst) (by rw[l];simp);have J:=aa (ao.out W l);clear l;repeat(go_big_quiet_step(first|(go_at_call_of 59 e1.src;exact aP (dt R.out _))|(go_at_call_of 59 e1.dst;exact aP (dt T.out _))|(go_at_call 60;exact aP (dZ U.out av.out _))|(go_at_call 61;exact aP (fC ab.out _))))
          refine wpQuiet_nil ?_;intro w1 C;have P:=aa C;clear C;go_wp2_with fail;go_ret;exact⟨aF (a5.out (by rw[a0.out,T.out];simp)),J.out.trans (P.out.mono J.out.size)⟩
         ·cases q3;·
           go_wp2_with fail;refine aK (by kernel_rfl) (by kernel_rfl) (fun W l=>?_);have ag:=aH W;have f0:=ae (w:=W) (b:=wr.heap.size) (o:=0) (v:=.int .i64 e1.src) (by rw[l];simp);have f3:=ae (w:=W) (b:=wr.heap.size) (o:=3) (v:=.int .i64 e1.dst) (by rw[l];simp);have f1:=ae (w:=W) (b:=wr.heap.size) (o:=1) (v:=.string e1.label) (by rw[l];simp);have J:=aa (ao.out W l);clear l;repeat(go_big_quiet_step(first|(go_at_call_of 59 e1.src;exact aP (dt R.out _))|(go_at_call_of 59 e1.dst;exact aP (dt T.out _))|(go_at_call 60;exact aP (dZ U.out av.out _))|(go_at_call 61;exact aP (fC ab.out _))))
           refine wpQuiet_nil ?_;intro w1 C;have P:=aa C;clear C;go_wp2_with fail;go_ret;exact⟨aF (a5.out (by rw[a0.out,U.out];simp)),J.out.trans (P.out.mono J.out.size)⟩
          ·cases q4;·
            go_wp2_with fail;refine aK (by kernel_rfl) (by kernel_rfl) (fun W l=>?_);have ag:=aH W;have f0:=ae (w:=W) (b:=wr.heap.size) (o:=0) (v:=.int .i64 e1.src) (by rw[l];simp);have f3:=ae (w:=W) (b:=wr.heap.size) (o:=3) (v:=.int .i64 e1.dst) (by rw[l];simp);have f1:=ae (w:=W) (b:=wr.heap.size) (o:=1) (v:=.string e1.label) (by rw[l];simp);have f2:=ae (w:=W) (b:=wr.heap.size) (o:=2) (v:=.int .i64 e1.sort) (by rw[l];simp);have J:=aa (ao.out W l);clear l;repeat(go_big_quiet_step(first|(go_at_call_of 59 e1.src;exact aP (dt R.out _))|(go_at_call_of 59 e1.dst;exact aP (dt T.out _))|(go_at_call 60;exact aP (dZ U.out av.out _))|(go_at_call 61;exact aP (fC ab.out _))))
            refine wpQuiet_nil ?_;intro w1 C;have P:=aa C;clear C;go_wp2_with fail;go_ret;exact⟨aF (a5.out (by rw[a0.out,ab.out];simp)),J.out.trans (P.out.mono J.out.size)⟩
           ·have d3:0≤e1.src∧e1.src<(m.aj.length:Int):=by have:=R.out;simp[fj]at this;omega
            obtain⟨em,bL⟩:=d3;obtain⟨bs,os,rfl,cv,bi⟩:=cp.out (by intro h;rw[h]at bL;simp at bL;omega);have d4:=(bi.get e1.src.toNat (by omega)).carry cv HW.out;have b8:eF m e1.src=(m.aj[e1.src.toNat]'(by omega)).kind:=by rw[eF,List.getElem?_eq_getElem (by omega)]
            obtain⟨kd,c7⟩:∃kd,kd=(m.aj[e1.src.toNat]'(by omega)).kind:=⟨_,rfl⟩;have a2:=d4.1;rw[←c7]at a2 b8;have b5:=aa b8;have cx:bs<wr.heap.size:=World.block_lt_of_cell? wr _ a2;have cs:=aa a2;have FS:Hid (∀W,W=wr.alloc (.cells #[.int .i64 e1.src,.string e1.label,.int .i64 e1.sort,.int .i64 e1.dst] 61)→W.cell? ⟨bs,os+e1.src.toNat*2,none⟩=some (.int .i64 kd)∧W.cell? ⟨w.heap.size,0,none⟩=some (.slice (some ⟨bs,os,none⟩) m.aj.length sc)):=aa (fun W l=>by rw[l];exact⟨((ai wr _).cell (p:=⟨bs,_,none⟩) cx).trans cs.out,((ai wr _).cell (p:=⟨w.heap.size,0,none⟩) (by show w.heap.size<wr.heap.size;omega)).trans b0⟩);clear d4 b8 c7 bi a2;obtain⟨kz,bx⟩:∃kz,(kd==0)=kz:=⟨_,rfl⟩;have az:=aa bx;cases kz;·
             by_cases ed:0<k2;rotate_left;·
              have br:Hid (dF m k2=true):=aa (by rw[b3.out,a0.out,R.out,T.out,U.out,ab.out,b5.out,az.out,show k2=0 by omega];rfl);go_wp2_with fail;refine aK (by kernel_rfl) (by kernel_rfl) (fun W l=>?_);have ag:=aH W;have f0:=ae (w:=W) (b:=wr.heap.size) (o:=0) (v:=.int .i64 e1.src) (by rw[l];simp);have f3:=ae (w:=W) (b:=wr.heap.size) (o:=3) (v:=.int .i64 e1.dst) (by rw[l];simp);have f1:=ae (w:=W) (b:=wr.heap.size) (o:=1) (v:=.string e1.label) (by rw[l];simp);have f2:=ae (w:=W) (b:=wr.heap.size) (o:=2) (v:=.int .i64 e1.sort) (by rw[l];simp);have f4:=ae (FS.out W l).1;have f5:=ae (FS.out W l).2;have J:=aa (ao.out W l);have a4:=aa (b4.out W l);clear l;repeat(go_big_quiet_step(first|(go_at_call_of 59 e1.src;exact aP (dt R.out _))|(go_at_call_of 59 e1.dst;exact aP (dt T.out _))|(go_at_call 60;exact aP (dZ U.out av.out _))|(go_at_call 61;exact aP (fC ab.out _))))
              refine wpQuiet_nil ?_;intro w1 C;have P:=aa C;clear C ag f0 f1 f2 f3 f4 f5;go_wp2_with fail;go_roundw;case rel=>exact⟨_,ac,by go_num,bp.out (br.out),a4.out.trans (P.out.mono (by have:=a4.out.size;simp at this;omega))⟩
              case measure=>simp[intOf];omega
             ·obtain⟨j,rfl⟩:∃j,k2=j+1:=⟨k2-1,by omega⟩;obtain⟨e0,b7⟩:∃e0,e0=m.al[j]'(by omega):=⟨_,rfl⟩;have b9:=cn.out j (by omega);rw[←b7]at b9;have d5:Hid (m.al[j+1-1]?=some e0):=aa (by rw[Nat.add_sub_cancel,List.getElem?_eq_getElem (by omega),←b7]);have FE:Hid (∀W,W=wr.alloc (.cells #[.int .i64 e1.src,.string e1.label,.int .i64 e1.sort,.int .i64 e1.dst] 61)→eP W b (o+j*4) e0∧W.cell? ⟨w.heap.size,1,none⟩=some (.slice (some ⟨b,o,none⟩) m.al.length ec)):=aa (fun W l=>by rw[l];exact⟨b9.carry cy (ai wr _),((ai wr _).cell (p:=⟨w.heap.size,1,none⟩) (by show w.heap.size<wr.heap.size;omega)).trans b1⟩);clear b7 b9;obtain⟨q5,cc⟩:∃q5,a7 e0 e1=q5:=⟨_,rfl⟩;have cl:=aa cc;have br:Hid (dF m (j+1)=q5):=aa (by rw[b3.out,a0.out,R.out,T.out,U.out,ab.out,b5.out,az.out,d5.out,←cc];rfl);clear cc;cases q5;·
               go_wp2_with fail;refine aK (by kernel_rfl) (by kernel_rfl) (fun W l=>?_);have ag:=aH W;have f0:=ae (w:=W) (b:=wr.heap.size) (o:=0) (v:=.int .i64 e1.src) (by rw[l];simp);have f3:=ae (w:=W) (b:=wr.heap.size) (o:=3) (v:=.int .i64 e1.dst) (by rw[l];simp);have f1:=ae (w:=W) (b:=wr.heap.size) (o:=1) (v:=.string e1.label) (by rw[l];simp);have f2:=ae (w:=W) (b:=wr.heap.size) (o:=2) (v:=.int .i64 e1.sort) (by rw[l];simp);have f4:=ae (FS.out W l).1;have f5:=ae (FS.out W l).2;obtain⟨⟨a8,a9,ba,bb⟩,be⟩:=FE.out W l;have f6:=ae a8;have f7:=ae a9;have f8:=ae ba;have f9:=ae bb;have fx:=ae be;clear a8 a9 ba bb be;have J:=aa (ao.out W l);have a4:=aa (b4.out W l);clear l;repeat(go_big_quiet_step(first|(go_at_call_of 59 e1.src;exact aP (dt R.out _))|(go_at_call_of 59 e1.dst;exact aP (dt T.out _))|(go_at_call 60;exact aP (dZ U.out av.out _))|(go_at_call 61;exact aP (fC ab.out _))|(go_at_call 62;exact aD (lj (a:=e0) (b:=e1) cl.out _))))
               refine wpQuiet_nil ?_;intro w1 C;have P:=aa C;clear C;go_wp2_with fail;go_ret;exact⟨aF (a1.out br.out),J.out.trans (P.out.mono J.out.size)⟩
              ·go_wp2_with fail;refine aK (by kernel_rfl) (by kernel_rfl) (fun W l=>?_);have ag:=aH W;have f0:=ae (w:=W) (b:=wr.heap.size) (o:=0) (v:=.int .i64 e1.src) (by rw[l];simp);have f3:=ae (w:=W) (b:=wr.heap.size) (o:=3) (v:=.int .i64 e1.dst) (by rw[l];simp);have f1:=ae (w:=W) (b:=wr.heap.size) (o:=1) (v:=.string e1.label) (by rw[l];simp);have f2:=ae (w:=W) (b:=wr.heap.size) (o:=2) (v:=.int .i64 e1.sort) (by rw[l];simp);have f4:=ae (FS.out W l).1;have f5:=ae (FS.out W l).2;obtain⟨⟨a8,a9,ba,bb⟩,be⟩:=FE.out W l;have f6:=ae a8;have f7:=ae a9;have f8:=ae ba;have f9:=ae bb;have fx:=ae be;clear a8 a9 ba bb be;have J:=aa (ao.out W l);have a4:=aa (b4.out W l);clear l;repeat(go_big_quiet_step(first|(go_at_call_of 59 e1.src;exact aP (dt R.out _))|(go_at_call_of 59 e1.dst;exact aP (dt T.out _))|(go_at_call 60;exact aP (dZ U.out av.out _))|(go_at_call 61;exact aP (fC ab.out _))|(go_at_call 62;exact aD (lj (a:=e0) (b:=e1) cl.out _))))
               refine wpQuiet_nil ?_;intro w1 C;have P:=aa C;clear C ag f0 f1 f2 f3 f4 f5 f6 f7 f8 f9 fx;go_wp2_with fail;go_roundw;case rel=>exact⟨_,ac,by go_num,bp.out (br.out),a4.out.trans (P.out.mono (by have:=a4.out.size;simp at this;omega))⟩
               case measure=>simp[intOf];omega
            ·go_wp2_with fail;refine aK (by kernel_rfl) (by kernel_rfl) (fun W l=>?_);have ag:=aH W;have f0:=ae (w:=W) (b:=wr.heap.size) (o:=0) (v:=.int .i64 e1.src) (by rw[l];simp);have f3:=ae (w:=W) (b:=wr.heap.size) (o:=3) (v:=.int .i64 e1.dst) (by rw[l];simp);have f1:=ae (w:=W) (b:=wr.heap.size) (o:=1) (v:=.string e1.label) (by rw[l];simp);have f2:=ae (w:=W) (b:=wr.heap.size) (o:=2) (v:=.int .i64 e1.sort) (by rw[l];simp);have f4:=ae (FS.out W l).1;have f5:=ae (FS.out W l).2;have J:=aa (ao.out W l);clear l;repeat(go_big_quiet_step(first|(go_at_call_of 59 e1.src;exact aP (dt R.out _))|(go_at_call_of 59 e1.dst;exact aP (dt T.out _))|(go_at_call 60;exact aP (dZ U.out av.out _))|(go_at_call 61;exact aP (fC ab.out _))))
             refine wpQuiet_nil ?_;intro w1 C;have P:=aa C;clear C;go_wp2_with fail;go_ret;exact⟨aF (a5.out (by rw[a0.out,b5.out,az.out];simp)),J.out.trans (P.out.mono J.out.size)⟩
       ·have HM:Hid (aW m=true):=aa (by rw[aW,d7.out,cg.out];have:=cf.out;rw[show k2=m.al.length by omega]at this;rw[this];rfl);go_wp2_with fail;go_ret;exact⟨aF HM.out,HW.out⟩
  ·have HM:Hid (aW m=false):=aa (by rw[aW,iF];simp[cu]);go_enter Tryz.func25,Tryz.ntmps25;go_wp2_with(go_at_call 59;refine(oZ _ _ _ _).mono ?_;rintro e w'⟨rfl,rfl⟩;rw[ay.out]);go_ret;exact⟨aF HM.out,ai _ _⟩
end
theorem oH{r:ByteArray×Int×Int}{x:ByteArray}{y z:Int}(h:r=(x,y,z)):Ending.returned (.agg #[.string x,.int .i64 y,.int .i64 z])=.returned (.agg #[.string r.1,.int .i64 r.2.1,.int .i64 r.2.2]):=by rw[h]
theorem tT(s:ByteArray)(a:Int)(w:World)(hs:s.size≤maxLen)(ha:a≤9223372036854775807):Calls Tryz.prog 124 #[.string s,.int .i64 a] w fun e w'=>e=.returned (.agg #[.string (dd s a).1,.int .i64 (dd s a).2.1,.int .i64 (dd s a).2.2])∧Below w.heap.size w w':=by
 have HR:Hid (∀w,Calls Tryz.prog 123 #[.string s,.int .i64 a] w fun e w'=>e=.returned (.agg #[.int .i64 (aY s a).1,.int .i64 (aY s a).2.1,.int .i64 (aY s a).2.2])∧Below w.heap.size w w'):=fun w=>yw s a w hs ha;have ab:=gv s a;have J:Hid (dd s a=if(aY s a).2.2≠0 then(⟨#[]⟩,0,(aY s a).2.2)else if(aY s a).1<0∨8000<(aY s a).1 then(⟨#[]⟩,0,3)else if(s.size:Int)-(aY s a).2.1<(aY s a).1 then(⟨#[]⟩,0,4)else(s.extract (aY s a).2.1.toNat ((aY s a).2.1.toNat+(aY s a).1.toNat),(aY s a).2.1+(aY s a).1,0)):=rfl;clear ha;generalize(aY s a).1=N at*;generalize(aY s a).2.1=B at*;generalize(aY s a).2.2=C at*;unfold maxLen at hs;rcases ab with⟨rfl,h1,h2,h8⟩|⟨rfl,rfl,h1,h4⟩;·
  by_cases hr:N<0∨8000<N;·
   have R:Hid (dd s a=(⟨#[]⟩,0,3)):=by show _=_;rw[J.out,if_neg (by simp),if_pos hr]
   clear J;have U:(decide (N<0)=true)∨(decide (N<0)=false∧8000<N):=by
    rcases hr with h|h;·exact .inl (decide_eq_true h)
    ·exact .inr ⟨decide_eq_false (by omega),h⟩
   clear hr;rcases U with g|⟨g,g2⟩;all_goals go_enter Tryz.func124,Tryz.ntmps124;go_wp2_with(go_at_call 123;refine(HR.out _).mono ?_;rintro e w1⟨rfl,j⟩;obtain⟨T,hf⟩:=An j;have hz:w.heap.size<w1.heap.size:=(by have:=j.size;simp at this;omega);have l:=aa j;clear j);exact bodyPost_ret (v:=.agg #[.string ⟨#[]⟩,.int .i64 0,.int .i64 3]) (by simp[results,Tryz.results124,go_sem,T,hz]) rfl ⟨oH R.out,(((((((Below.refl _ _).alloc (Nat.le_refl _) _).trans (l.out.mono (by simp))).setCell (Nat.le_refl _) _).setCell (Nat.le_refl _) _).setCell (Nat.le_refl _) _).alloc (by simp[World.setCell];omega) _)⟩
  ·have n0:0≤N:=by omega
   have n8:N≤8000:=by omega
   by_cases I:(s.size:Int)-B<N;·
    have R:Hid (dd s a=(⟨#[]⟩,0,4)):=by show _=_;rw[J.out,if_neg (by simp),if_neg hr,if_pos I]
    have P:(s.size:Int)-N<B:=by omega
    clear J hr I;go_enter Tryz.func124,Tryz.ntmps124;go_wp2_with(go_at_call 123;refine(HR.out _).mono ?_;rintro e w1⟨rfl,j⟩;obtain⟨T,hf⟩:=An j;have hz:w.heap.size<w1.heap.size:=(by have:=j.size;simp at this;omega);have l:=aa j;clear j);exact bodyPost_ret (v:=.agg #[.string ⟨#[]⟩,.int .i64 0,.int .i64 4]) (by simp[results,Tryz.results124,go_sem,T,hz]) rfl ⟨oH R.out,(((((((Below.refl _ _).alloc (Nat.le_refl _) _).trans (l.out.mono (by simp))).setCell (Nat.le_refl _) _).setCell (Nat.le_refl _) _).setCell (Nat.le_refl _) _).alloc (by simp[World.setCell];omega) _)⟩
   ·obtain⟨b,rfl⟩:=Int.eq_ofNat_of_zero_le (show 0≤B by omega);obtain⟨n,rfl⟩:=Int.eq_ofNat_of_zero_le n0;have R:Hid (dd s a=(s.extract b (b+n),(b:Int)+(n:Int),0)):=by show _=_;rw[J.out,if_neg (by simp),if_neg hr,if_neg I];rfl
    have P:¬(s.size:Int)-(n:Int)<(b:Int):=by omega
    clear J hr I;go_enter Tryz.func124,Tryz.ntmps124;go_wp2_with(go_at_call 123;refine(HR.out _).mono ?_;rintro e w1⟨rfl,j⟩;obtain⟨T,hf⟩:=An j;have hz:w.heap.size<w1.heap.size:=(by have:=j.size;simp at this;omega);have l:=aa j;clear j);have ad:IntKind.i64.wrap ((b:Int)+(n:Int))=(b:Int)+(n:Int):=by rw[IntKind.wrap_i64];omega
    have ac:∀W,(Instr.slice 9 (.string s) (some (.int .i64 (b:Int))) (some (.int .i64 ((b:Int)+(n:Int)))) none).run Tryz.prog W=.ok (.string (s.extract b (b+n))) W:=fun W=>by rw[run_slice_string W 9 s .i64 .i64 (b:Int) ((b:Int)+(n:Int)) Tryz.underlying9 (by omega) (by omega) (by omega)];rfl
    clear P;go_region;go_wp2;exact bodyPost_ret (v:=.agg #[.string (s.extract b (b+n)),.int .i64 ((b:Int)+(n:Int)),.int .i64 0]) (by simp[results,Tryz.results124,go_sem,T,hz]) rfl ⟨oH R.out,(((((((Below.refl _ _).alloc (Nat.le_refl _) _).trans (l.out.mono (by simp))).setCell (Nat.le_refl _) _).setCell (Nat.le_refl _) _).setCell (Nat.le_refl _) _).alloc (by simp[World.setCell];omega) _).drew⟩
 ·have R:Hid (dd s a=(⟨#[]⟩,0,C)):=by show _=_;rw[J.out,if_pos (by omega)]
  have g:(C !=0)=true:=by rw[bne_iff_ne];omega
  clear J;go_enter Tryz.func124,Tryz.ntmps124;go_wp2_with(go_at_call 123;refine(HR.out _).mono ?_;rintro e w1⟨rfl,j⟩;obtain⟨T,hf⟩:=An j;have hz:w.heap.size<w1.heap.size:=(by have:=j.size;simp at this;omega);have l:=aa j;clear j);exact bodyPost_ret (v:=.agg #[.string ⟨#[]⟩,.int .i64 0,.int .i64 C]) (by simp[results,Tryz.results124,go_sem,T,hz]) rfl ⟨oH R.out,(((((((Below.refl _ _).alloc (Nat.le_refl _) _).trans (l.out.mono (by simp))).setCell (Nat.le_refl _) _).setCell (Nat.le_refl _) _).setCell (Nat.le_refl _) _).alloc (by simp[World.setCell];omega) _)⟩
theorem Am{a b:ByteArray}(h:a.data.toList=b.data.toList):a=b:=by apply ByteArray.ext;exact Array.toList_inj.1 h
theorem DG(s:ByteArray)(a:Nat):∀j,j≤9→(∀i,i<j→a+i<s.size∧128≤iP s (a+i))→fw s a 10 0=fw s a (10-j) j:=by intro j;induction j with|zero=>intro _ _;rfl|succ j ih=>intro l h;rw[ih (by omega) (fun i hi=>h i (by omega)),show 10-j=(9-j)+1 from by omega];have:=h j (by omega);rw[mN (by omega) (by omega) (by omega),show 9-j=10-(j+1)from by omega]
theorem wE{s:ByteArray}{i:Nat}{b:UInt8}(h:s.data.toList[i]?=some b):i<s.size∧iP s i=b.toNat:=by
 have hi:i<s.data.toList.length:=by
  rcases Nat.lt_or_ge i s.data.toList.length with j|j;·exact j
  ·rw[List.getElem?_eq_none j]at h;cases h
 have l:i<s.size:=by rw[Lib.size_eq];exact hi
 refine⟨l,?_⟩;rw[nC l];rw[List.getElem?_eq_getElem hi]at h;have e:s[i]=s.data.toList[i]:=rfl;rw[e,Option.some.inj h]
structure ve(s:ByteArray)(a u k:Nat):Prop where
 k9:k≤9
 more:∀i,i<k→128≤u/128^i
 KY:∀i,i<k→s.data.toList[a+i]?=some (As u i)
theorem ve.byte{s:ByteArray}{a u k:Nat}(h:ve s a u k)(i:Nat)(hi:i<k):a+i<s.size∧iP s (a+i)=u/128^i%128+128:=by obtain⟨j,l⟩:=wE (h.KY i hi);refine⟨j,?_⟩;have:=pG u i;omega
theorem ve.sum{s:ByteArray}{a u k:Nat}(h:ve s a u k):∀j,j≤k→jk s a j=u%128^j
 |0,_=>by simp[jk,Nat.mod_one]|j+1,l=>by
  rw[jk,h.sum j (by omega),(h.byte j (by omega)).2,Nat.pow_succ,Nat.mod_mul];have e:(u/128^j%128+128)%128=u/128^j%128:=by omega
  rw[e,Nat.mul_comm (u/128^j%128)]
theorem ve.run{s:ByteArray}{a u k:Nat}(h:ve s a u k):fw s a 10 0=fw s a (10-k) k:=DG s a k h.k9 (fun i hi=>by have:=h.byte i hi;omega)
theorem ve.whole{s:ByteArray}{a u k:Nat}(h:ve s a u k)(hu:i7 u)(j:u/128^k<128)(P:s.data.toList[a+k]?=some (nt u k)):fw s a 10 0=(cO u,((a+k+1:Nat):Int),0):=by
 obtain⟨T,U⟩:=wE P;have h3:=ml j;have l:iP s (a+k)=u/128^k:=by omega
 have J:¬(k=9∧1<iP s (a+k)):=by
  rintro⟨rfl,h⟩;have:=hu.lt;have I:(128:Nat)^9=9223372036854775808:=by decide
  rw[l,I]at h;omega
 have C:¬(iP s (a+k)=0∧0<k):=by rintro⟨C,hk⟩;have hm:=h.more (k-1) (by omega);have e:=kS u (k-1);rw[show k-1+1=k from by omega]at e;omega
 have R:jk s a (k+1)=u:=by rw[jk,h.sum k (Nat.le_refl _),l,Nat.mod_eq_of_lt j,Nat.mul_comm];exact Nat.mod_add_div u (128^k)
 rw[h.run,show 10-k=(9-k)+1 from by have:=h.k9;omega,km (by omega) J (by omega),if_neg C,R]
theorem yG{n:Int}:cO (dC n)=n:=by unfold cO dC;split<;>split<;>omega
theorem BE(u:Nat)(hu:i7 u):∃k,k≤9∧(∀i,i<k→128≤u/128^i)∧u/128^k<128∧kb u=rh u k:=by
 have key:∀m,∃k,k≤m∧(∀i,i<k→128≤u/128^i)∧(u/128^k<128∨k=m):=by
  intro m;induction m with
   |zero=>exact⟨0,by omega,fun i hi=>absurd hi (by omega),.inr rfl⟩|succ m ih=>
    obtain⟨k,l,j,C⟩:=ih;by_cases h:u/128^k<128;·exact⟨k,by omega,j,.inl h⟩
    ·have J:k=m:=by omega
     subst J;refine⟨k+1,by omega,fun i hi=>?_,.inr rfl⟩;by_cases e:i=k;·subst e;omega
     ·exact j i (by omega)
 obtain⟨k,l,j,C⟩:=key 9;have I:u/128^k<128:=by
  rcases C with h|rfl;·exact h
  ·exact nI hu
 exact⟨k,l,j,I,rD l j I⟩
theorem Gr{s:ByteArray}{pre post:List UInt8}{u k:Nat}(C:k≤9)(j:∀i,i<k→128≤u/128^i)(l:s.data.toList=pre++(rh u k++post)):ve s pre.length u k:=by refine⟨C,j,fun i hi=>?_⟩;rw[l,List.getElem?_append_right (by omega),Nat.add_sub_cancel_left,List.getElem?_append_left (by rw[eL];omega)];exact vJ hi
theorem xO{n:Int}(l:-9223372036854775808≤n)(C:n≤9223372036854775807){s:ByteArray}{pre post:List UInt8}(j:s.data.toList=pre++(kb (dC n)++post))(U:s.size≤8000):aY s (pre.length:Int)=(n,(pre.length:Int)+((kb (dC n)).length:Int),0):=by
 have hu:=pK l C;obtain⟨k,T,R,P,e⟩:=BE _ hu;rw[e]at j;have I:=Gr T R j;have J:s.data.toList[pre.length+k]?=some (nt (dC n) k):=by rw[j,List.getElem?_append_right (by omega),Nat.add_sub_cancel_left,List.getElem?_append_left (by rw[eL];omega)];exact qe _ _
 rw[aY,if_neg (by omega),if_neg (by omega),Int.toNat_natCast,I.whole hu P J,yG,e,eL];refine Prod.ext rfl (Prod.ext ?_ rfl);simp only;omega
theorem u5{u:ByteArray}(h:u.size≤8000):(eO u).data.toList=kb (dC (u.size:Int))++u.data.toList:=by rw[ng h,sQ];simp[ByteArray.data_append,ca]
theorem Co(n:Int):(ca n).data.toList=kb (dC n):=rfl
section
attribute [local go_sem ↓] Go.wp_at_zero Go.wp_at_succ
def fY(m:aN)(s:Int):List bl:=if aW m&&fj s 0 ((m.aj.length:Int)-1)then lV m s else[]
theorem iz{m:aN}(h:aW m=true):m.al.length≤80:=by simp[aW,iF]at h;exact h.1.2.1
theorem jM(m:aN)(s:Int):(fY m s).length≤80:=by
 unfold fY;split;·rename_i h;simp at h;exact Nat.le_trans (Bp m s) (iz h.1)
 ·simp
theorem bM{q:Bool}{m:aN}(l:aW m=q)(v:Value)(w:World)(j:m.fit)(C:bu w v m):Calls Tryz.prog 25 #[v] w fun e w'=>e=.returned (.bool q)∧Below w.heap.size w w':=by subst l;exact mE m v w j C
theorem eR{q:Bool}{m:aN}{s:Int}(j:fj s 0 ((m.aj.length:Int)-1)=q)(v:Value)(w:World)(P:bu w v m):Calls Tryz.prog 49 #[v,.int .i64 s] w fun e w'=>e=.returned (.bool q)∧Below w.heap.size w w':=by obtain⟨sv,ev,rfl,l,I⟩:=P;have J:=l.jc;obtain⟨U,sc,rfl,-⟩:=l;obtain⟨R,T,rfl,-⟩:=I;have C:=aa j;clear j;go_enter Tryz.func49,Tryz.ntmps49;go_wp2_with(go_at_call 59;refine(dt C.out _).mono ?_;rintro e w'⟨rfl,rfl⟩);go_ret;exact⟨rfl,ai _ _⟩
end
theorem u7(s:ByteArray)(a i:Nat):∀d,jk s a (i+d+1)/128^i%128=iP s (a+i)%128|0=>by rw[Nat.add_zero,jk,Nat.add_mul_div_right _ _ (Nat.pow_pos (by omega)),Nat.div_eq_of_lt (qj s a i),Nat.zero_add,Nat.mod_mod]|d+1=>by have ih:=u7 s a i d;rw[show i+(d+1)+1=(i+d+1)+1 by omega,jk,show(128:Nat)^(i+d+1)=128^(d+1)*128^i by rw[←Nat.pow_add];congr 1;omega,←Nat.mul_assoc,Nat.add_mul_div_right _ _ (Nat.pow_pos (by omega)),show(128:Nat)^(d+1)=128^d*128 from Nat.pow_succ ..,←Nat.mul_assoc,Nat.add_mul_mod_self_right];exact ih
theorem vV(s:ByteArray)(a k:Nat):jk s a (k+1)/128^k=iP s (a+k)%128:=by rw[jk,Nat.add_mul_div_right _ _ (Nat.pow_pos (by omega)),Nat.div_eq_of_lt (qj s a k),Nat.zero_add]
theorem xd(u:Nat):dC (cO u)=u:=by unfold dC cO;split<;>split<;>omega
structure CZ(s:ByteArray)(a k:Nat):Prop where
 k9:k≤9
 inside:a+k<s.size
 high:∀i,i<k→128≤iP s (a+i)
 low:iP s (a+k)<128
 full:0<k→iP s (a+k)≠0
 top:¬(k=9∧1<iP s (a+k))
theorem uE(s:ByteArray)(a:Nat):∀f k,f+k=10→(∀i,i<k→128≤iP s (a+i))→(fw s a f k).2.2=0→∃j,CZ s a j∧fw s a f k=(cO (jk s a (j+1)),((a+j+1:Nat):Int),0)
 |0,k,_,_,h=>by simp[fw]at h|f+1,k,hf,P,h=>by
  rw[fw]at h⊢;split at h;·simp at h
  ·rename_i R;rw[if_neg R];split at h;·simp at h
   ·rename_i I;rw[if_neg I];split at h;·
     rename_i l;rw[if_pos l];split at h;·simp at h
     ·rename_i J;rw[if_neg J];exact⟨k,⟨by omega,by omega,P,l,fun T U=>J ⟨U,T⟩,I⟩,rfl⟩
    ·rename_i l;rw[if_neg l];exact uE s a f (k+1) (by omega) (fun i hi=>by
      by_cases C:i<k;·exact P i C
      ·obtain rfl:i=k:=by omega
       omega) h
theorem uR{s:ByteArray}{i:Nat}(h:i<s.size):UInt8.ofNat (iP s i)=s[i]:=by rw[nC h];simp
theorem CZ.bytes{s:ByteArray}{a k:Nat}(h:CZ s a k):s.data.toList.take (a+k+1)=s.data.toList.take a++kb (jk s a (k+1)):=by
 have hu:∀i,i<k→128≤jk s a (k+1)/128^i:=fun i hi=>by
  have h1:jk s a (k+1)≥128^k:=by
   have R:=vV s a k;have h3:=h.full (by omega);have T:1≤jk s a (k+1)/128^k:=by rw[R,Nat.mod_eq_of_lt h.low];omega
   have:=(Nat.le_div_iff_mul_le (Nat.pow_pos (by omega))).1 T;omega
  rw[Nat.le_div_iff_mul_le (Nat.pow_pos (by omega))];have U:(128:Nat)^(i+1)≤128^k:=Nat.pow_le_pow_right (by omega) hi;rw[Nat.pow_succ]at U;omega
 have hl:jk s a (k+1)/128^k<128:=by rw[vV];omega
 have ac:s.data.toList.length=s.size:=by simp
 have l:=h.inside;rw[rD h.k9 hu hl];apply List.ext_getElem?;intro j;by_cases J:j<a;·rw[List.getElem?_append_left (by simp;omega),List.getElem?_take_of_lt (by omega),List.getElem?_take_of_lt J]
 ·rw[List.getElem?_append_right (by simp;omega)];have I:(s.data.toList.take a).length=a:=by simp;omega
  rw[I];by_cases ab:j<a+k;·
   rw[List.getElem?_take_of_lt (by omega),vJ (by omega)];have C:j<s.size:=by omega
   obtain⟨i,rfl⟩:∃i,j=a+i:=⟨j-a,by omega⟩;have hd:=u7 s a i (k-i);rw[show i+(k-i)+1=k+1 by omega]at hd;have hb:=h.high i (by omega);have hc:=FV s (a+i);rw[Nat.add_sub_cancel_left,As,hd,show iP s (a+i)%128+128=iP s (a+i)by omega,uR C,List.getElem?_eq_getElem (by simpa using C)];rfl
  ·by_cases P:j=a+k;·subst P;rw[List.getElem?_take_of_lt (by omega),Nat.add_sub_cancel_left,qe,nt,vV,Nat.mod_eq_of_lt h.low,uR l,List.getElem?_eq_getElem (by simpa using l)];rfl
   ·rw[List.getElem?_take_eq_none (by omega),List.getElem?_eq_none (by rw[eL];omega)]
def gN(t:ByteArray)(a:Int):Option (Int×Int):=if(aY t a).2.2=0 then some ((aY t a).1,(aY t a).2.1)else none
def gT(t:ByteArray)(a:Int):Option (ByteArray×Int):=if(dd t a).2.2=0 then some ((dd t a).1,(dd t a).2.1)else none
def bL(t:ByteArray):List UInt8:=t.data.toList
structure qX(t:ByteArray)(a b:Int)(l:List UInt8):Prop where
 lo:0≤a
 hi:b≤(t.size:Int)
 le:a≤b
 eq:(bL t).take b.toNat=(bL t).take a.toNat++l
theorem qX.trans{t:ByteArray}{a b c:Int}{l l':List UInt8}(h:qX t a b l)(j:qX t b c l'):qX t a c (l++l'):=⟨h.lo,j.hi,Int.le_trans h.le j.le,by rw[j.eq,h.eq,List.append_assoc]⟩
theorem kW{t:ByteArray}{a b n:Int}(h:gN t a=some (n,b)):qX t a b (bL (ca n))∧(-9223372036854775808≤n∧n≤9223372036854775807)∧t.size≤8000:=by
 unfold gN at h;split at h;·
  rename_i l;simp at h;obtain⟨rfl,rfl⟩:=h;unfold aY at l⊢;split at l;·simp at l
  ·rename_i I;rw[if_neg I];split at l;·simp at l
   ·rename_i J;rw[if_neg J];obtain⟨j,C,R⟩:=uE t a.toNat 10 0 rfl (fun i hi=>by omega) l;rw[R];have P:=C.bytes;have T:=C.inside;have hu:=lF C.k9 C.top;refine⟨⟨by omega,by simp only;omega,by simp only;omega,?_⟩,?_,by omega⟩;·simp only[bL];rw[Int.toNat_natCast,P,Co,xd]
    ·simp only;unfold cO i7 at*;split<;>omega
 ·cases h
theorem AB{t:ByteArray}{a b:Int}{x:ByteArray}(h:gT t a=some (x,b)):qX t a b (bL (eO x))∧x.size≤8000:=by
 unfold gT at h;split at h;·
  rename_i j;simp at h;obtain⟨rfl,rfl⟩:=h;unfold dd at j⊢;split at j;·rename_i C;simp at j;exact absurd j C
  ·rename_i C;rw[if_neg C];split at j;·simp at j
   ·rename_i P;rw[if_neg P];split at j;·simp at j
    ·rename_i R;rw[if_neg R];have T:gN t a=some ((aY t a).1,(aY t a).2.1):=by unfold gN;rw[if_pos (by simpa using C)]
     obtain⟨l,-,h8⟩:=kW T;generalize(aY t a).1=n at*;generalize(aY t a).2.1=p at*;have U:0≤p:=Int.le_trans l.lo l.le;have I:(t.extract p.toNat (p.toNat+n.toNat)).size=n.toNat:=by rw[ByteArray.size_extract];omega
     refine⟨⟨l.lo,by simp only;omega,by have:=l.le;simp only;omega,?_⟩,by simp only;omega⟩;simp only;have ht:bL (eO (t.extract p.toNat (p.toNat+n.toNat)))=kb (dC n)++((bL t).drop p.toNat).take n.toNat:=by unfold bL;rw[u5 (by omega),I,show((n.toNat:Nat):Int)=n by omega,Lib.extract_data,Nat.add_sub_cancel_left]
     have J:=l.eq;rw[show bL (ca n)=kb (dC n)from rfl]at J;rw[ht,←List.append_assoc,←J,show(p+n).toNat=p.toNat+n.toNat by omega,List.take_add]
 ·cases h
def nK(t:ByteArray)(a most:Int):Option (Nat×Int):=(gN t a).bind fun r=>if 0≤r.1∧r.1≤most then some (r.1.toNat,r.2)else none
def j8{α:Type}(f:Int→Option (α×Int))(a:Int):Nat→Option (List α×Int)|0=>some ([],a)|k+1=>(j8 f a k).bind fun r=>(f r.2).bind fun x=>some (r.1++[x.1],x.2)
theorem pP{α:Type}{f:Int→Option (α×Int)}{a:Int}{k:Nat}(h:j8 f a k=none):∀d,j8 f a (k+d)=none|0=>h|d+1=>by rw[show k+(d+1)=(k+d)+1 by omega,j8,pP h d];rfl
theorem uD{t:ByteArray}{a b most:Int}{n:Nat}(h:nK t a most=some (n,b)):qX t a b (bL (ca (n:Int)))∧(n:Int)≤most:=by
 simp only[nK,Option.bind_eq_some_iff,Prod.exists]at h;obtain⟨z,p,l,j⟩:=h;split at j;·rename_i C;simp at j;obtain⟨rfl,rfl⟩:=j;have:=(kW l).1;rw[show((z.toNat:Nat):Int)=z by omega];exact⟨this,C.2⟩
 ·cases j
theorem pO{α:Type}{t:ByteArray}{f:Int→Option (α×Int)}{pt:α→List UInt8}{ok:α→Prop}(P:∀a b x,f a=some (x,b)→qX t a b (pt x)∧ok x){a:Int}(I:0≤a)(J:a≤(t.size:Int)):∀(k:Nat){l:List α}{b:Int},j8 f a k=some (l,b)→l.length=k∧qX t a b (l.flatMap pt)∧∀x∈l,ok x
 |0,l,b,h=>by simp[j8]at h;obtain⟨rfl,rfl⟩:=h;exact⟨rfl,⟨I,J,Int.le_refl _,by simp⟩,fun x R=>by cases R⟩|k+1,l,b,h=>by
  simp only[j8,Option.bind_eq_some_iff,Prod.exists]at h;obtain⟨l1,b1,g1,x,b2,g2,C⟩:=h;simp at C;obtain⟨rfl,rfl⟩:=C;obtain⟨T,U,i3⟩:=pO P I J k g1;obtain⟨j1,j2⟩:=P _ _ _ g2;refine⟨by simp[T],by simpa using U.trans j1,fun y j=>?_⟩;rcases List.mem_append.1 j with j|j;·exact i3 y j
  ·simp at j;subst j;exact j2
theorem vk(l:List ByteArray):bL (dr l)=l.flatMap bL:=by simp only[bL,dr,il,List.take_length];rfl
def oU(t:ByteArray)(a:Int):Option (aB×Int):=(gN t a).bind fun r=>(gT t r.2).bind fun x=>some (⟨r.1,x.1⟩,x.2)
def pL(t:ByteArray)(a:Int):Option (ar×Int):=(gN t a).bind fun r=>(gT t r.2).bind fun x=>(gN t x.2).bind fun y=>(gN t y.2).bind fun z=>some (⟨r.1,x.1,y.1,z.1⟩,z.2)
def fR(t:ByteArray):Option (aN×Int):=(nK t 0 40).bind fun p=>(j8 (oU t) p.2 p.1).bind fun q=>(nK t q.2 80).bind fun r=>(j8 (pL t) r.2 r.1).bind fun s=>(gN t s.2).bind fun u=>some (⟨q.1,s.1,u.1⟩,u.2)
theorem BR{t:ByteArray}{a b:Int}{x:aB}(h:oU t a=some (x,b)):qX t a b ((eh x).flatMap bL)∧x.peer.size≤8000:=by simp only[oU,Option.bind_eq_some_iff,Prod.exists]at h;obtain⟨z,p,l,y,q,C,j⟩:=h;simp at j;obtain⟨rfl,rfl⟩:=j;have I:=(kW l).1;obtain⟨J,P⟩:=AB C;exact⟨by simpa[eh]using I.trans J,P⟩
theorem BP{t:ByteArray}{a b:Int}{x:ar}(h:pL t a=some (x,b)):qX t a b ((dE x).flatMap bL)∧x.label.size≤8000:=by simp only[pL,Option.bind_eq_some_iff,Prod.exists]at h;obtain⟨z,p,J,y,q,P,z2,U,R,z3,p3,T,j⟩:=h;simp at j;obtain⟨rfl,rfl⟩:=j;have g1:=(kW J).1;obtain⟨g2,l⟩:=AB P;have C:=(kW R).1;have I:=(kW T).1;exact⟨by simpa[dE]using g1.trans (g2.trans (C.trans I)),l⟩
theorem nL{t:ByteArray}{m:aN}{a:Int}(h:fR t=some (m,a)):qX t 0 a (bL (cW m))∧m.aj.length≤40∧m.al.length≤80∧(∀x∈m.aj,x.peer.size≤8000)∧(∀x∈m.al,x.label.size≤8000):=by simp only[fR,Option.bind_eq_some_iff,Prod.exists]at h;obtain⟨n1,a1,T,ls,a2,U,n2,a3,h3,le,a4,h4,st,a5,h5,C⟩:=h;simp at C;obtain⟨rfl,rfl⟩:=C;obtain⟨g1,k1⟩:=uD T;obtain⟨i2,g2,I⟩:=pO (pt:=fun x=>(eh x).flatMap bL) (ok:=fun x=>x.peer.size≤8000) (fun a b x l=>BR l) (Int.le_trans g1.lo g1.le) g1.hi n1 U;obtain⟨j,k3⟩:=uD h3;obtain⟨i4,P,J⟩:=pO (pt:=fun x=>(dE x).flatMap bL) (ok:=fun x=>x.label.size≤8000) (fun a b x l=>BP l) (Int.le_trans j.lo j.le) j.hi n2 h4;have R:=(kW h5).1;refine⟨?_,by simp only;omega,by simp only;omega,I,J⟩;have:=g1.trans (g2.trans (j.trans (P.trans R)));rw[cW,vk,dw,cC,cD];rw[←i2,←i4]at this;simpa[List.take_length,List.flatMap_append,List.flatMap_cons,List.flatMap_assoc]using this
section
attribute [local go_sem ↓] Go.wp_at_zero Go.wp_at_succ
theorem Cv(m:aN)(s:Int)(v:Value)(w:World)(hv:bu w v m)(h0:0≤s)(h1:s<(m.aj.length:Int))(bm:m.al.length≤80):Calls Tryz.prog 50 #[v,.int .i64 s] w fun e w'=>∃v',e=.returned v'∧bK w' w.heap.size v' (lV m s)∧Below w.heap.size w w':=by
 obtain⟨i0,hi,a5,a8,a9⟩:=info_parts Tryz.rr;have HI:=aa (And.intro hi (And.intro a5 (And.intro a8 a9)));clear hi a5 a8 a9;obtain⟨sv,ev,rfl,hs,he⟩:=hv;have bz:=hs.jc;obtain⟨sa,sc,rfl,bv,bx,bi⟩:=hs;obtain⟨ea,ec,rfl,bn,bp,a1⟩:=he;obtain⟨bs,os,rfl,bk,ab⟩:=bi (by intro h;rw[h]at h1;simp at h1;omega);have ao:s.toNat<m.aj.length:=by omega
 have a4:=ab.get s.toNat ao;obtain⟨x,hx⟩:∃x,x=m.aj[s.toNat]:=⟨_,rfl⟩;have HX:Hid (jH m s=x):=aa (by rw[jH,List.getElem?_eq_getElem ao,hx];rfl);rw[←hx]at a4;obtain⟨c0,c1⟩:=a4;have ba:=aa a1;clear hx ab a1;go_enter Tryz.func50,Tryz.ntmps50;go_wp2_with fail;go_loopw[5,7](fun out i wr=>∃k:Nat,k≤m.al.length∧i=.int .i64 k∧bK wr (w.heap.size+1) out (dR m s k)∧(∀b∈an out,b≠w.heap.size+2)∧Below (w.heap.size+1) (w.alloc (.cells #[.slice (some ⟨bs,os,none⟩) m.aj.length sc,.slice ea m.al.length ec,.int .i64 m.start] 28)) wr∧w.heap.size+2<wr.heap.size∧wr.cell? ⟨w.heap.size+2,0,none⟩=some (.int .i64 x.kind)∧wr.cell? ⟨w.heap.size+2,1,none⟩=some (.string x.peer))(fun _ i _=>m.al.length-(intOf i).toNat);case atStart=>
  refine⟨0,Nat.zero_le _,rfl,?_,?_,?_,?_,?_,?_⟩;·exact dJ _ _ _ _ (w.heap.size+1) (Nat.le_refl _) (by rw[fL _ _ _ (by simp),bY _ _ _ (by simp)])
  ·intro b hb;simp[an,aG]at hb;omega
  ·exact((Below.refl _ _).alloc (by simp) _).alloc (by simp) _
  ·simp
  ·exact wL _ _ _ _ _ _ _ rfl
  ·exact wL _ _ _ _ _ _ _ rfl
 case round=>
  obtain⟨k,hk,rfl,T,a2,l,ad,g0,g1⟩:=hrel;have I:=aa T;have ax:=aa a2;have af:=aa l;have b0:wr.cell? ⟨w.heap.size,0,none⟩=some (.slice (some ⟨bs,os,none⟩) m.aj.length sc):=(l.cell (p:=⟨w.heap.size,0,none⟩) (by simp)).trans (by simp);have b1:wr.cell? ⟨w.heap.size,1,none⟩=some (.slice ea m.al.length ec):=(l.cell (p:=⟨w.heap.size,1,none⟩) (by simp)).trans (by simp);have HW:Hid (Below w.heap.size w wr):=aa ((ai _ _).trans (l.mono (by omega)));obtain⟨p,cp,rfl⟩:=aq T;have br:=tX m s k;clear T a2 l;by_cases J:k<m.al.length;·
   obtain⟨b,o,rfl,bf,av⟩:=ba.out (by intro h;simp[h]at J);have R:=(av.get k J).carry bf HW.out;obtain⟨e1,C⟩:∃e1,e1=m.al[k]:=⟨_,rfl⟩;rw[←C]at R;obtain⟨d0,d1,d2,d3⟩:=R;obtain⟨q,hq⟩:∃q,(e1.src==s)=q:=⟨_,rfl⟩;have bb:Hid (q=false→dR m s (k+1)=dR m s k):=aa (fun h=>wy J (by rw[←C,hq,h]));have a0:Hid (q=true→dR m s (k+1)=dR m s k++[dD m s e1]):=aa (fun h=>by rw[tY J (by rw[←C,hq,h]),←C]);clear C av;cases q;·
    go_wp2_with fail;go_roundw;case rel=>exact⟨k+1,J,by go_num,by rw[bb.out rfl];exact I.out.below (ai _ _),ax.out,af.out.alloc (by omega) _,by simp;omega,((ai wr _).cell (p:=⟨w.heap.size+2,0,none⟩) ad).trans g0,((ai wr _).cell (p:=⟨w.heap.size+2,1,none⟩) ad).trans g1⟩
    case measure=>simp[intOf];omega
   ·go_wp2_with(at_builtin;refine wpList_append_own_at _ rfl (.tmp 31) (.tmp 41) 34 rfl (w.heap.size+1) 37 i0 (.agg #[.int .i64 0,.string ByteArray.empty,.string ByteArray.empty,.int .i64 0]) 4 48 Tryz.underlying34 HI.out.1 HI.out.2.1 HI.out.2.2.1 HI.out.2.2.2 rfl (by decide) (.slice p (dR m s k).length cp) (dR m s k).length ((dR m s k).flatMap bl.cells) rfl (I.out.below (dT _ _ _)) ⟨wr.heap.size+1,0,none⟩ 1 1 (bl.mk x.kind x.peer e1.label e1.sort).cells rfl rfl (fun j u hj=>Er _ _ _ _ j u hj) (bl.cells_one _) (by unfold maxLen;omega) (by omega) (by simp;omega) ?_;intro v2 w2 U ah _ ag;have P:=aa U;have az:=aa ah;have ay:=aa ag;clear U ah ag);go_roundw;case rel=>
     have hA:aw wr w2 (an (.slice p (dR m s k).length cp)):=by have:=(ak (dT wr _ _)).trans (aE az.out);rwa[List.nil_append]at this
     have bg:∀b∈an (.slice p (dR m s k).length cp),w.heap.size+1≤b:=I.out.fresh.lo;have a3:∀j u,wr.cell? ⟨w.heap.size+2,j,none⟩=some u→w2.cell? ⟨w.heap.size+2,j,none⟩=some u:=fun j u hu=>(World.cell?_of_block (a:=⟨w.heap.size+2,j,none⟩) (hA.block _ ad (fun hm=>ax.out _ hm rfl))).trans hu;refine⟨k+1,J,by go_num,?_,?_,?_,Nat.lt_of_lt_of_le ad hA.size,a3 0 _ g0,a3 1 _ g1⟩;·rw[a0.out rfl,dD,HX.out];exact bK.snoc P.out
     ·intro b hb;have hv:=aq P.out;obtain⟨p2,c2,hv⟩:=hv;have ac:=(bh hv).2 hb;rcases ay.out with h|h;·rw[h]at ac;exact ax.out b ((bh rfl).1 ac)
      ·rw[h]at ac;simp at ac;omega
     ·exact af.out.trans (hA.below (by omega) bg)
    case measure=>simp[intOf];omega
  ·go_wp2_with fail;go_ret;refine⟨_,rfl,?_,HW.out⟩;have:=I.out;rw[tW (by omega)]at this⊢;obtain⟨h1,h2⟩:=this;exact⟨h1,h2.imp id (fun⟨g,c,be,h3,h4,h5⟩=>⟨g,c,be,h3,by omega,h5⟩)⟩
theorem yj(m:aN)(s:Int)(v:Value)(w:World)(hf:m.fit)(hv:bu w v m):Calls Tryz.prog 18 #[v,.int .i64 s] w fun e w'=>∃v',e=.returned v'∧bK w' w.heap.size v' (fY m s)∧Below w.heap.size w w':=by
 have HF:=aa hf;have HV:Hid (∀W,Below w.heap.size w W→bu W v m):=aa (fun W hb=>hv.carry hb);obtain⟨sv,ev,rfl,hs,he⟩:=hv;have az:=hs.jc;obtain⟨sa,sc,rfl,-⟩:=hs;obtain⟨ea,ec,rfl,-⟩:=he;obtain⟨q1,ac⟩:∃q1,aW m=q1:=⟨_,rfl⟩;obtain⟨q2,ad⟩:∃q2,fj s 0 ((m.aj.length:Int)-1)=q2:=⟨_,rfl⟩;have HR:Hid (fY m s=if q1&&q2 then lV m s else[]):=aa (by rw[fY,ac,ad]);have R:=aa ac;have T:=aa ad;clear ac ad hf;have ab:Hid (∀W A,W=w.alloc A→Below w.heap.size w W∧w.heap.size<W.heap.size):=aa (fun W A C=>by rw[C];exact⟨ai _ _,by simp⟩);cases q1;·go_enter Tryz.func18,Tryz.ntmps18;go_wp2_with(refine bj 5 (fun W C=>?_);have P:=aH W;have U:=ae (w:=W) (b:=w.heap.size) (o:=0) (v:=.slice sa m.aj.length sc) (by rw[C];simp);have f1:=ae (w:=W) (b:=w.heap.size) (o:=1) (v:=.slice ea m.al.length ec) (by rw[C];simp);have f2:=ae (w:=W) (b:=w.heap.size) (o:=2) (v:=.int .i64 m.start) (by rw[C];simp);have l:=aa (ab.out W _ C);clear C;(repeat(go_big_quiet_step(first|(go_at_call 25;exact aD (bM R.out _ _ HF.out ((HV.out _ l.out.1).carry (Grown.dN _))))|(go_at_call 49;exact aD (eR T.out _ _ ((HV.out _ l.out.1).carry (Grown.dN _)))))));refine wpQuiet_nil ?_;intro I j;have b0:=U ⟨I,j⟩;have b1:=f1 ⟨I,j⟩;have b2:=f2 ⟨I,j⟩;dsimp only at b0 b1 b2;have J:Hid (Below w.heap.size w I):=aa (l.out.1.trans (j.mono l.out.1.size));have af:=aa j;clear j P U f1 f2);go_ret;refine⟨_,rfl,?_,J.out.trans ((ai _ _).mono J.out.size)⟩;rw[HR.out];exact dJ _ _ _ _ I.heap.size J.out.size (bY _ _ _ rfl)
 ·cases q2;·go_enter Tryz.func18,Tryz.ntmps18;go_wp2_with(refine bj 5 (fun W C=>?_);have P:=aH W;have U:=ae (w:=W) (b:=w.heap.size) (o:=0) (v:=.slice sa m.aj.length sc) (by rw[C];simp);have f1:=ae (w:=W) (b:=w.heap.size) (o:=1) (v:=.slice ea m.al.length ec) (by rw[C];simp);have f2:=ae (w:=W) (b:=w.heap.size) (o:=2) (v:=.int .i64 m.start) (by rw[C];simp);have l:=aa (ab.out W _ C);clear C;(repeat(go_big_quiet_step(first|(go_at_call 25;exact aD (bM R.out _ _ HF.out ((HV.out _ l.out.1).carry (Grown.dN _))))|(go_at_call 49;exact aD (eR T.out _ _ ((HV.out _ l.out.1).carry (Grown.dN _)))))));refine wpQuiet_nil ?_;intro I j;have b0:=U ⟨I,j⟩;have b1:=f1 ⟨I,j⟩;have b2:=f2 ⟨I,j⟩;dsimp only at b0 b1 b2;have J:Hid (Below w.heap.size w I):=aa (l.out.1.trans (j.mono l.out.1.size));have af:=aa j;clear j P U f1 f2);go_ret;refine⟨_,rfl,?_,J.out.trans ((ai _ _).mono J.out.size)⟩;rw[HR.out];exact dJ _ _ _ _ I.heap.size J.out.size (bY _ _ _ rfl)
  ·have hb:0≤s∧s<(m.aj.length:Int):=by have:=T.out;simp[fj]at this;omega
   have ao:=aa (iz R.out);have HB:=aa hb;clear hb;go_enter Tryz.func18,Tryz.ntmps18;go_wp2_with(first|(refine bj 5 (fun W C=>?_);have P:=aH W;have U:=ae (w:=W) (b:=w.heap.size) (o:=0) (v:=.slice sa m.aj.length sc) (by rw[C];simp);have f1:=ae (w:=W) (b:=w.heap.size) (o:=1) (v:=.slice ea m.al.length ec) (by rw[C];simp);have f2:=ae (w:=W) (b:=w.heap.size) (o:=2) (v:=.int .i64 m.start) (by rw[C];simp);have l:=aa (ab.out W _ C);clear C;(repeat(go_big_quiet_step(first|(go_at_call 25;exact aD (bM R.out _ _ HF.out ((HV.out _ l.out.1).carry (Grown.dN _))))|(go_at_call 49;exact aD (eR T.out _ _ ((HV.out _ l.out.1).carry (Grown.dN _)))))));refine wpQuiet_nil ?_;intro I j;have b0:=U ⟨I,j⟩;have b1:=f1 ⟨I,j⟩;have b2:=f2 ⟨I,j⟩;dsimp only at b0 b1 b2;have J:Hid (Below w.heap.size w I):=aa (l.out.1.trans (j.mono l.out.1.size));have af:=aa j;clear j P U f1 f2)|(go_at_call 50;refine(Cv m s _ _ (HV.out _ J.out) HB.out.1 HB.out.2 ao.out).mono ?_;rintro e w2⟨v2,rfl,ah,ag⟩;have ax:=aa ah;have av:=aa ag;clear ah ag));go_ret;refine⟨_,rfl,?_,J.out.trans (av.out.mono J.out.size)⟩;rw[HR.out];obtain⟨h1,h2⟩:=ax.out;exact⟨h1,h2.imp id (fun⟨g,c,ay,h3,h4,h5⟩=>⟨g,c,ay,h3,Nat.le_trans J.out.size h4,h5⟩)⟩
structure gq(w:World)(rb:Nat)(t:ByteArray)(a c:Int):Prop where
 c0:w.cell? ⟨rb,0,none⟩=some (.string t)
 c1:w.cell? ⟨rb,1,none⟩=some (.int .i64 a)
 c2:w.cell? ⟨rb,2,none⟩=some (iE c)
 f1:w.frozen? ⟨rb,1,none⟩=false
 f2:w.frozen? ⟨rb,2,none⟩=false
theorem gq.lt{w:World}{rb:Nat}{t:ByteArray}{a c:Int}(h:gq w rb t a c):rb<w.heap.size:=World.block_lt_of_cell? w _ h.c0
theorem gq.keep{w w':World}{rb:Nat}{t:ByteArray}{a c:Int}{l:List Nat}(h:gq w rb t a c)(j:aw w w' l)(C:rb∉l):gq w' rb t a c:=⟨j.bN h.c0 C,j.bN h.c1 C,j.bN h.c2 C,j.eB h.lt h.f1 C,j.eB h.lt h.f2 C⟩
theorem vK{w:World}{rb:Nat}{t:ByteArray}{a c a' c':Int}{ev:Value}(h:gq w rb t a c)(I:ev=iE c'):gq ((w.setCell ⟨rb,1,none⟩ (.int .i64 a')).setCell ⟨rb,2,none⟩ ev) rb t a' c'∧aw w ((w.setCell ⟨rb,1,none⟩ (.int .i64 a')).setCell ⟨rb,2,none⟩ ev) [rb]:=by
 subst I;have l:=h.c1;have C:=h.c2;have j:=h.c0;refine⟨⟨?_,?_,?_,?_,?_⟩,(aA w rb 1 _).setCell 2 _⟩;·rw[World.cell?_setCell_other _ _ _ _ (by simp),World.cell?_setCell_other _ _ _ _ (by simp)];exact j
 ·rw[World.cell?_setCell_other _ _ _ _ (by simp)];exact World.cell?_setCell_same _ _ _ l
 ·exact World.cell?_setCell_same _ _ _ ((World.cell?_setCell_other _ _ _ _ (by simp)).trans C)
 ·rw[World.frozen?_setCell,World.frozen?_setCell];exact h.f1
 ·rw[World.frozen?_setCell,World.frozen?_setCell];exact h.f2
theorem aw.lW{a b c:World}{l:List Nat}(h:aw a b l)(j:aw b c l):aw a c l:=⟨j.os.trans h.os,j.tape.trans h.tape,j.output.trans h.output,Nat.le_trans h.size j.size,fun k C I=>(j.block k (Nat.lt_of_lt_of_le C h.size) I).trans (h.block k C I)⟩
theorem sd(a b:Int):decide (a=b)=(a==b):=by by_cases h:a=b<;>simp[h]
def aZ(t:ByteArray)(a c:Int):Int×Int×Int:=if c=0 then aY t a else(0,a,c)
def bP(t:ByteArray)(a c:Int):ByteArray×Int×Int:=if c=0 then dd t a else(⟨#[]⟩,a,c)
theorem Gg(t:ByteArray)(a:Int):0≤(aY t a).2.1∧(aY t a).2.1≤8000∧0≤(aY t a).2.2∧(aY t a).2.2≤4:=by have:=gv t a;omega
theorem EH(t:ByteArray)(a c:Int)(rb:Nat)(w:World)(hs:t.size≤8000)(ha:a≤8000)(h:gq w rb t a c):Calls Tryz.prog 81 #[.pointer (some ⟨rb,0,none⟩)] w fun e w'=>e=.returned (.int .i64 (aZ t a c).1)∧gq w' rb t (aZ t a c).2.1 (aZ t a c).2.2∧aw w w' [rb]:=by
 have HH:=aa h;obtain⟨U,c1,c2,f1,f2⟩:=h;by_cases hc:c=0;·
  subst hc;have e0:aZ t a 0=aY t a:=by rw[aZ,if_pos rfl]
  rw[e0];have HC:Hid (∀w,Calls Tryz.prog 117 #[.string t,.int .i64 a] w fun e w'=>e=.returned (.tuple #[.int .i64 (aY t a).1,.int .i64 (aY t a).2.1,iE (aY t a).2.2])∧w'=w):=aa (fun w=>yb t a w (by unfold maxLen;omega) (by omega));clear hs ha e0;generalize(aY t a).1=n at*;generalize(aY t a).2.1=p at*;generalize(aY t a).2.2=k at*;obtain⟨ev,C⟩:∃ev,iE k=ev:=⟨_,rfl⟩;have T:=aa C;have e1:iE 0=.nilIface:=rfl;rw[e1]at c2;rw[C]at HC;by_cases hk:k=0;·
   have e2:ev=.nilIface:=by rw[←C,hk];rfl
   subst e2;clear C hk e1;go_enter Tryz.func81,Tryz.ntmps81;go_wp2_with fail;refine aK (by kernel_rfl) (by kernel_rfl) (fun W J=>?_);have R:=aH W;have k0:=ae (w:=W) (b:=rb) (o:=0) (v:=.string t) (by rw[J];exact U);have k1:=ae (w:=W) (b:=rb) (o:=1) (v:=.int .i64 a) (by rw[J];exact c1);have j:Hid (Below w.heap.size w W):=aa (by rw[J];exact Below.refl _ _);clear J U c1 c2 f1 f2;repeat(go_big_quiet_step((go_at_call 117;exact aP (HC.out _))))
   refine wpQuiet_nil ?_;intro w4 l;have I:=aa (HH.out.keep (ak (j.out.trans (l.mono j.out.size))) (by simp));have P:=aa (ak (j.out.trans (l.mono j.out.size)));obtain⟨d0,d1,d2,g1,g2⟩:=I.out;clear l R k0 k1;go_wp2_with fail;go_ret;obtain⟨r1,r2⟩:=vK (a':=p) (c':=k) I.out T.out.symm;exact⟨rfl,r1,by have:=P.out.trans r2;simpa using this⟩
  ·have e2:ev=.iface 156 (.agg #[.int .i64 k]):=by rw[←C];exact if_neg hk
   subst e2;clear C hk e1;go_enter Tryz.func81,Tryz.ntmps81;go_wp2_with fail;refine aK (by kernel_rfl) (by kernel_rfl) (fun W J=>?_);have R:=aH W;have k0:=ae (w:=W) (b:=rb) (o:=0) (v:=.string t) (by rw[J];exact U);have k1:=ae (w:=W) (b:=rb) (o:=1) (v:=.int .i64 a) (by rw[J];exact c1);have j:Hid (Below w.heap.size w W):=aa (by rw[J];exact Below.refl _ _);clear J U c1 c2 f1 f2;repeat(go_big_quiet_step((go_at_call 117;exact aP (HC.out _))))
   refine wpQuiet_nil ?_;intro w4 l;have I:=aa (HH.out.keep (ak (j.out.trans (l.mono j.out.size))) (by simp));have P:=aa (ak (j.out.trans (l.mono j.out.size)));obtain⟨d0,d1,d2,g1,g2⟩:=I.out;clear l R k0 k1;go_wp2_with fail;go_ret;obtain⟨r1,r2⟩:=vK (a':=p) (c':=k) I.out T.out.symm;exact⟨rfl,r1,by have:=P.out.trans r2;simpa using this⟩
 ·have e0:aZ t a c=(0,a,c):=by rw[aZ,if_neg hc]
  rw[e0];have e2:iE c=.iface 156 (.agg #[.int .i64 c]):=if_neg hc;rw[e2]at c2;clear e0 e2 hc;go_enter Tryz.func81,Tryz.ntmps81;go_wp2_with fail;go_ret;exact⟨rfl,HH.out,aw.qk (aw.refl _)⟩
theorem G0(t:ByteArray)(a c:Int)(rb:Nat)(w:World)(hs:t.size≤8000)(ha:a≤8000)(h:gq w rb t a c):Calls Tryz.prog 82 #[.pointer (some ⟨rb,0,none⟩)] w fun e w'=>e=.returned (.string (bP t a c).1)∧gq w' rb t (bP t a c).2.1 (bP t a c).2.2∧aw w w' [rb]:=by
 have HH:=aa h;obtain⟨U,c1,c2,f1,f2⟩:=h;by_cases hc:c=0;·
  subst hc;have e0:bP t a 0=dd t a:=by rw[bP,if_pos rfl]
  rw[e0];have HC:Hid (∀w,Calls Tryz.prog 118 #[.string t,.int .i64 a] w fun e w'=>e=.returned (.tuple #[.string (dd t a).1,.int .i64 (dd t a).2.1,iE (dd t a).2.2])∧Below w.heap.size w w'):=aa (fun w=>Cp t a w (by unfold maxLen;omega) (by omega));clear hs ha e0;generalize(dd t a).1=n at*;generalize(dd t a).2.1=p at*;generalize(dd t a).2.2=k at*;obtain⟨ev,C⟩:∃ev,iE k=ev:=⟨_,rfl⟩;have T:=aa C;have e1:iE 0=.nilIface:=rfl;rw[e1]at c2;rw[C]at HC;by_cases hk:k=0;·
   have e2:ev=.nilIface:=by rw[←C,hk];rfl
   subst e2;clear C hk e1;go_enter Tryz.func82,Tryz.ntmps82;go_wp2_with fail;refine aK (by kernel_rfl) (by kernel_rfl) (fun W J=>?_);have R:=aH W;have k0:=ae (w:=W) (b:=rb) (o:=0) (v:=.string t) (by rw[J];exact U);have k1:=ae (w:=W) (b:=rb) (o:=1) (v:=.int .i64 a) (by rw[J];exact c1);have j:Hid (Below w.heap.size w W):=aa (by rw[J];exact Below.refl _ _);clear J U c1 c2 f1 f2;repeat(go_big_quiet_step((go_at_call 118;exact aD (HC.out _))))
   refine wpQuiet_nil ?_;intro w4 l;have I:=aa (HH.out.keep (ak (j.out.trans (l.mono j.out.size))) (by simp));have P:=aa (ak (j.out.trans (l.mono j.out.size)));obtain⟨d0,d1,d2,g1,g2⟩:=I.out;clear l R k0 k1;go_wp2_with fail;go_ret;obtain⟨r1,r2⟩:=vK (a':=p) (c':=k) I.out T.out.symm;exact⟨rfl,r1,by have:=P.out.trans r2;simpa using this⟩
  ·have e2:ev=.iface 156 (.agg #[.int .i64 k]):=by rw[←C];exact if_neg hk
   subst e2;clear C hk e1;go_enter Tryz.func82,Tryz.ntmps82;go_wp2_with fail;refine aK (by kernel_rfl) (by kernel_rfl) (fun W J=>?_);have R:=aH W;have k0:=ae (w:=W) (b:=rb) (o:=0) (v:=.string t) (by rw[J];exact U);have k1:=ae (w:=W) (b:=rb) (o:=1) (v:=.int .i64 a) (by rw[J];exact c1);have j:Hid (Below w.heap.size w W):=aa (by rw[J];exact Below.refl _ _);clear J U c1 c2 f1 f2;repeat(go_big_quiet_step((go_at_call 118;exact aD (HC.out _))))
   refine wpQuiet_nil ?_;intro w4 l;have I:=aa (HH.out.keep (ak (j.out.trans (l.mono j.out.size))) (by simp));have P:=aa (ak (j.out.trans (l.mono j.out.size)));obtain⟨d0,d1,d2,g1,g2⟩:=I.out;clear l R k0 k1;go_wp2_with fail;go_ret;obtain⟨r1,r2⟩:=vK (a':=p) (c':=k) I.out T.out.symm;exact⟨rfl,r1,by have:=P.out.trans r2;simpa using this⟩
 ·have e0:bP t a c=(⟨#[]⟩,a,c):=by rw[bP,if_neg hc]
  rw[e0];have e2:iE c=.iface 156 (.agg #[.int .i64 c]):=if_neg hc;rw[e2]at c2;clear e0 e2 hc;go_enter Tryz.func82,Tryz.ntmps82;go_wp2_with fail;go_ret;exact⟨rfl,HH.out,aw.qk (aw.refl _)⟩
def cj(t:ByteArray)(a c most:Int):Int×Int×Int:=if(aZ t a c).1<0∨most<(aZ t a c).1 then(0,(aZ t a c).2.1,3)else aZ t a c
theorem A0{w:World}{rb:Nat}{t:ByteArray}{a c c':Int}{ev:Value}(h:gq w rb t a c)(j:ev=iE c'):gq (w.setCell ⟨rb,2,none⟩ ev) rb t a c'∧aw w (w.setCell ⟨rb,2,none⟩ ev) [rb]:=by
 subst j;refine⟨⟨?_,?_,?_,?_,?_⟩,aA w rb 2 _⟩;·rw[World.cell?_setCell_other _ _ _ _ (by simp)];exact h.c0
 ·rw[World.cell?_setCell_other _ _ _ _ (by simp)];exact h.c1
 ·exact World.cell?_setCell_same _ _ _ h.c2
 ·rw[World.frozen?_setCell];exact h.f1
 ·rw[World.frozen?_setCell];exact h.f2
theorem EG(t:ByteArray)(a c most:Int)(rb:Nat)(w:World)(hs:t.size≤8000)(ha:a≤8000)(h:gq w rb t a c):Calls Tryz.prog 80 #[.pointer (some ⟨rb,0,none⟩),.int .i64 most] w fun e w'=>e=.returned (.int .i64 (cj t a c most).1)∧gq w' rb t (cj t a c most).2.1 (cj t a c most).2.2∧aw w w' [rb]:=by
 have P:Hid (Calls Tryz.prog 81 #[.pointer (some ⟨rb,0,none⟩)] w fun e w'=>e=.returned (.int .i64 (aZ t a c).1)∧gq w' rb t (aZ t a c).2.1 (aZ t a c).2.2∧aw w w' [rb]):=aa (EH t a c rb w hs ha h);have R:Hid (cj t a c most=if(aZ t a c).1<0∨most<(aZ t a c).1 then(0,(aZ t a c).2.1,3)else((aZ t a c).1,(aZ t a c).2.1,(aZ t a c).2.2)):=aa rfl;clear h hs ha;generalize(aZ t a c).1=n at*;generalize(aZ t a c).2.1=p at*;generalize(aZ t a c).2.2=k at*;by_cases T:n<0;·have I:=aa (R.out.trans (if_pos (.inl T)));have g0:decide (n<0)=true:=decide_eq_true T;go_enter Tryz.func80,Tryz.ntmps80;go_wp2_with(go_at_call 81;refine P.out.mono ?_;rintro e w1⟨rfl,l,j⟩;have J:=aa l;have C:=aa j;obtain⟨d0,d1,d2,g1,g2⟩:=l;clear j);go_ret;obtain⟨U,r2⟩:=A0 (c':=3) (ev:=.iface 156 (.agg #[.int .i64 3])) J.out rfl;rw[I.out];exact⟨rfl,U,C.out.lW r2⟩
 ·have g0:decide (n<0)=false:=decide_eq_false T;by_cases h1:most<n;·have I:=aa (R.out.trans (if_pos (.inr h1)));go_enter Tryz.func80,Tryz.ntmps80;go_wp2_with(go_at_call 81;refine P.out.mono ?_;rintro e w1⟨rfl,l,j⟩;have J:=aa l;have C:=aa j;obtain⟨d0,d1,d2,g1,g2⟩:=l;clear j);go_ret;obtain⟨U,r2⟩:=A0 (c':=3) (ev:=.iface 156 (.agg #[.int .i64 3])) J.out rfl;rw[I.out];exact⟨rfl,U,C.out.lW r2⟩
  ·have I:=aa (R.out.trans (if_neg (by omega)));go_enter Tryz.func80,Tryz.ntmps80;go_wp2_with(go_at_call 81;refine P.out.mono ?_;rintro e w1⟨rfl,l,j⟩;have J:=aa l;have C:=aa j;obtain⟨d0,d1,d2,g1,g2⟩:=l;clear j);go_ret;rw[I.out];exact⟨rfl,J.out,C.out⟩
theorem tq{q:Bool}{t:ByteArray}{a c:Int}(hq:(decide (c=0)&&decide (a=(t.size:Int)))=q)(rb:Nat)(w:World)(h:gq w rb t a c):Calls Tryz.prog 46 #[.pointer (some ⟨rb,0,none⟩)] w fun e w'=>e=.returned (.bool q)∧Below w.heap.size w w':=by
 have R:=aa hq;obtain⟨T,U,P,f1,f2⟩:=h;clear hq;by_cases hc:c=0;·
  subst hc;have e1:iE 0=.nilIface:=rfl;rw[e1]at P;have HA:Hid (decide (a=(t.size:Int))=q):=aa (by have:=R.out;simpa using this);have ab:(a==(t.size:Int))=q:=by have:=HA.out;rw[←this];exact(sd a _).symm
  clear R e1;go_enter Tryz.func46,Tryz.ntmps46;go_wp2_with fail;refine aK (by kernel_rfl) (by kernel_rfl) (fun W l=>?_);have J:=aH W;have k0:=ae (w:=W) (b:=rb) (o:=0) (v:=.string t) (by rw[l];exact T);have k1:=ae (w:=W) (b:=rb) (o:=1) (v:=.int .i64 a) (by rw[l];exact U);have k2:=ae (w:=W) (b:=rb) (o:=2) (v:=.nilIface) (by rw[l];exact P);have j:Hid (Below w.heap.size w W):=aa (by rw[l];exact Below.refl _ _);clear l T U P f1 f2;repeat(go_big_quiet_step(fail))
  refine wpQuiet_nil ?_;intro w4 C;have I:=aa (j.out.trans (C.mono j.out.size));clear C J k0 k1 k2;go_wp2_with fail;go_ret;exact⟨rfl,I.out⟩
 ·have e2:iE c=.iface 156 (.agg #[.int .i64 c]):=if_neg hc;rw[e2]at P;obtain rfl:false=q:=by have:=R.out;simpa[hc]using this
  clear R e2;go_enter Tryz.func46,Tryz.ntmps46;go_wp2_with fail;refine aK (by kernel_rfl) (by kernel_rfl) (fun W l=>?_);have J:=aH W;have k0:=ae (w:=W) (b:=rb) (o:=0) (v:=.string t) (by rw[l];exact T);have k1:=ae (w:=W) (b:=rb) (o:=1) (v:=.int .i64 a) (by rw[l];exact U);have k2:=ae (w:=W) (b:=rb) (o:=2) (v:=.iface 156 (.agg #[.int .i64 c])) (by rw[l];exact P);have j:Hid (Below w.heap.size w W):=aa (by rw[l];exact Below.refl _ _);clear l T U P f1 f2;repeat(go_big_quiet_step(fail))
  refine wpQuiet_nil ?_;intro w4 C;have I:=aa (j.out.trans (C.mono j.out.size));clear C J k0 k1 k2;go_wp2_with fail;go_ret;exact⟨rfl,I.out⟩
end
theorem Gh(t:ByteArray)(a:Int):0≤(dd t a).2.1∧(dd t a).2.1≤8000:=by
 unfold dd;have h:=gv t a;split;·simp
 ·split;·simp
  ·split;·simp
   ·simp only;omega
theorem gi{t:ByteArray}{a c:Int}(h:0≤a∧a≤8000):0≤(aZ t a c).2.1∧(aZ t a c).2.1≤8000:=by
 unfold aZ;split;·have:=Gg t a;omega
 ·exact h
theorem pA{t:ByteArray}{a c:Int}(h:0≤a∧a≤8000):0≤(bP t a c).2.1∧(bP t a c).2.1≤8000:=by
 unfold bP;split;·exact Gh t a
 ·exact h
theorem rk{t:ByteArray}{a c most:Int}(h:0≤a∧a≤8000):0≤(cj t a c most).2.1∧(cj t a c most).2.1≤8000:=by
 unfold cj;split;·exact gi h
 ·exact gi h
theorem fc{t:ByteArray}{a c:Int}(h:(aZ t a c).2.2=0):c=0∧gN t a=some ((aZ t a c).1,(aZ t a c).2.1):=by
 unfold aZ at h⊢;split at h;·rename_i j;rw[if_pos j];exact⟨j,by rw[gN,if_pos h]⟩
 ·rename_i j;exact absurd h j
theorem jC{t:ByteArray}{a:Int}(h:(aZ t a 0).2.2≠0):gN t a=none∧(aZ t a 0).1=0:=by have j:=gv t a;unfold aZ at h⊢;rw[if_pos rfl]at h⊢;exact⟨by rw[gN,if_neg h],by omega⟩
theorem oD{t:ByteArray}{a c:Int}(h:(bP t a c).2.2=0):c=0∧gT t a=some ((bP t a c).1,(bP t a c).2.1):=by
 unfold bP at h⊢;split at h;·rename_i j;rw[if_pos j];exact⟨j,by rw[gT,if_pos h]⟩
 ·rename_i j;exact absurd h j
theorem u9{t:ByteArray}{a:Int}(h:(bP t a 0).2.2≠0):gT t a=none:=by unfold bP at h;rw[if_pos rfl]at h;rw[gT,if_neg h]
theorem mT{t:ByteArray}{a c:Int}(h:c≠0):aZ t a c=(0,a,c):=by rw[aZ,if_neg h]
theorem yH{t:ByteArray}{a c:Int}(h:c≠0):bP t a c=(⟨#[]⟩,a,c):=by rw[bP,if_neg h]
theorem Ar{t:ByteArray}{a c most:Int}(h:c≠0)(j:0≤most):cj t a c most=(0,a,c):=by unfold cj;rw[mT h,if_neg (by simp only;omega)]
theorem pF{t:ByteArray}{a c most:Int}(h:(cj t a c most).2.2=0):c=0∧(0≤(cj t a c most).1∧(cj t a c most).1≤most)∧nK t a most=some ((cj t a c most).1.toNat,(cj t a c most).2.1):=by
 unfold cj at h⊢;split at h;·simp at h
 ·rename_i C;rw[if_neg C];obtain⟨j,l⟩:=fc h;refine⟨j,by omega,?_⟩;rw[nK,l];simp only[Option.bind_some];rw[if_pos (by omega)]
theorem rZ{t:ByteArray}{a most:Int}(h:(cj t a 0 most).2.2≠0):nK t a most=none∧(cj t a 0 most).1=0:=by
 unfold cj at h⊢;split at h;·
  rename_i l;rw[if_pos l];refine⟨?_,rfl⟩;by_cases C:(aZ t a 0).2.2=0;·have j:=(fc C).2;rw[nK,j];simp only[Option.bind_some];rw[if_neg (by omega)]
  ·rw[nK,(jC C).1];rfl
 ·rename_i l;rw[if_neg l];obtain⟨I,j⟩:=jC h;exact⟨by rw[nK,I];rfl,j⟩
theorem kQ{t:ByteArray}{a c most:Int}(l:0≤most):0≤(cj t a c most).1∧(cj t a c most).1≤most:=by
 by_cases j:c=0;·
  subst j;by_cases h:(cj t a 0 most).2.2=0;·exact(pF h).2.1
  ·rw[(rZ h).2];omega
 ·rw[Ar j l];simp only;omega
def Bc(t:ByteArray)(a c:Int):aB×Int×Int:=(⟨(aZ t a c).1,(bP t (aZ t a c).2.1 (aZ t a c).2.2).1⟩,(bP t (aZ t a c).2.1 (aZ t a c).2.2).2)
theorem Fa{t:ByteArray}{a c:Int}(h:(Bc t a c).2.2=0):c=0∧oU t a=some ((Bc t a c).1,(Bc t a c).2.1):=by obtain⟨j,l⟩:=oD h;obtain⟨C,I⟩:=fc j;refine⟨C,?_⟩;rw[oU,I];simp only[Option.bind_some];rw[l];rfl
theorem Hl{t:ByteArray}{a:Int}(h:(Bc t a 0).2.2≠0):oU t a=none:=by
 by_cases j:(aZ t a 0).2.2=0;·have C:=(fc j).2;have l:(bP t (aZ t a 0).2.1 (aZ t a 0).2.2).2.2≠0:=h;rw[j]at l;rw[oU,C];simp only[Option.bind_some];rw[u9 l];rfl
 ·rw[oU,(jC j).1];rfl
theorem JA{t:ByteArray}{a c:Int}(h:c≠0):(Bc t a c).2.2≠0:=by unfold Bc;rw[mT h,yH h];exact h
def Aw(t:ByteArray)(a c:Int):ar×Int×Int:=(⟨(aZ t a c).1,(bP t (aZ t a c).2.1 (aZ t a c).2.2).1,(aZ t (bP t (aZ t a c).2.1 (aZ t a c).2.2).2.1 (bP t (aZ t a c).2.1 (aZ t a c).2.2).2.2).1,(aZ t (aZ t (bP t (aZ t a c).2.1 (aZ t a c).2.2).2.1 (bP t (aZ t a c).2.1 (aZ t a c).2.2).2.2).2.1 (aZ t (bP t (aZ t a c).2.1 (aZ t a c).2.2).2.1 (bP t (aZ t a c).2.1 (aZ t a c).2.2).2.2).2.2).1⟩,(aZ t (aZ t (bP t (aZ t a c).2.1 (aZ t a c).2.2).2.1 (bP t (aZ t a c).2.1 (aZ t a c).2.2).2.2).2.1 (aZ t (bP t (aZ t a c).2.1 (aZ t a c).2.2).2.1 (bP t (aZ t a c).2.1 (aZ t a c).2.2).2.2).2.2).2)
theorem Dv{t:ByteArray}{a c:Int}(h:(Aw t a c).2.2=0):c=0∧pL t a=some ((Aw t a c).1,(Aw t a c).2.1):=by obtain⟨j,l⟩:=fc h;obtain⟨C,I⟩:=fc j;obtain⟨J,P⟩:=oD C;obtain⟨R,T⟩:=fc J;refine⟨R,?_⟩;rw[pL,T];simp only[Option.bind_some];rw[P];simp only[Option.bind_some];rw[I];simp only[Option.bind_some];rw[l];rfl
theorem F7{t:ByteArray}{a:Int}(h:(Aw t a 0).2.2≠0):pL t a=none:=by
 by_cases C:(aZ t a 0).2.2=0;·
  have g1:=(fc C).2;rw[pL,g1];simp only[Option.bind_some];by_cases j:(bP t (aZ t a 0).2.1 (aZ t a 0).2.2).2.2=0;·
   have g2:=(oD j).2;rw[g2];simp only[Option.bind_some];by_cases l:(aZ t (bP t (aZ t a 0).2.1 (aZ t a 0).2.2).2.1 (bP t (aZ t a 0).2.1 (aZ t a 0).2.2).2.2).2.2=0;·have J:=(fc l).2;rw[J];simp only[Option.bind_some];have I:(aZ t (aZ t (bP t (aZ t a 0).2.1 (aZ t a 0).2.2).2.1 (bP t (aZ t a 0).2.1 (aZ t a 0).2.2).2.2).2.1 (aZ t (bP t (aZ t a 0).2.1 (aZ t a 0).2.2).2.1 (bP t (aZ t a 0).2.1 (aZ t a 0).2.2).2.2).2.2).2.2≠0:=h;rw[l]at I;rw[(jC I).1];rfl
   ·rw[j]at l;rw[(jC l).1];rfl
  ·rw[C]at j;rw[show aZ t a 0=((aZ t a 0).1,(aZ t a 0).2.1,(aZ t a 0).2.2)from rfl]at*;rw[u9 j];rfl
 ·rw[pL,(jC C).1];rfl
theorem I2{t:ByteArray}{a c:Int}(h:c≠0):(Aw t a c).2.2≠0:=by unfold Aw;rw[mT h,yH h,mT h,mT h];exact h
def C1(t:ByteArray)(n:Nat)(a1:Int)(k:Nat)(l:List aB)(a c:Int):Prop:=(c=0∧nK t 0 40=some (n,a1)∧j8 (oU t) a1 k=some (l,a))∨(c≠0∧fR t=none)
theorem uV{t:ByteArray}:C1 t (cj t 0 0 40).1.toNat (cj t 0 0 40).2.1 0 [] (cj t 0 0 40).2.1 (cj t 0 0 40).2.2:=by
 by_cases h:(cj t 0 0 40).2.2=0;·exact .inl ⟨h,(pF h).2.2,rfl⟩
 ·refine .inr ⟨h,?_⟩;rw[fR,(rZ h).1];rfl
theorem x9{t:ByteArray}{n:Nat}{a1 a c:Int}{k:Nat}{l:List aB}(h:C1 t n a1 k l a c)(T:k<n):C1 t n a1 (k+1) (l++[(Bc t a c).1]) (Bc t a c).2.1 (Bc t a c).2.2:=by
 rcases h with⟨rfl,j,C⟩|⟨j,C⟩;·
  by_cases I:(Bc t a 0).2.2=0;·have J:=(Fa I).2;exact .inl ⟨I,j,by rw[j8,C];simp only[Option.bind_some];rw[J];rfl⟩
  ·have J:=Hl I;have R:j8 (oU t) a1 (k+1)=none:=by rw[j8,C];simp only[Option.bind_some];rw[J];rfl
   have P:=pP R (n-(k+1));rw[show k+1+(n-(k+1))=n by omega]at P;refine .inr ⟨I,?_⟩;rw[fR,j];simp only[Option.bind_some];rw[P];rfl
 ·exact .inr ⟨JA j,C⟩
def C2(t:ByteArray)(ls:List aB)(n:Nat)(a3:Int)(k:Nat)(l:List ar)(a c:Int):Prop:=(c=0∧∃j a1 a2,nK t 0 40=some (j,a1)∧j8 (oU t) a1 j=some (ls,a2)∧nK t a2 80=some (n,a3)∧j8 (pL t) a3 k=some (l,a))∨(c≠0∧fR t=none)
theorem uW{t:ByteArray}{n:Nat}{a1 a c:Int}{l:List aB}(h:C1 t n a1 n l a c):C2 t l (cj t a c 80).1.toNat (cj t a c 80).2.1 0 [] (cj t a c 80).2.1 (cj t a c 80).2.2:=by
 rcases h with⟨rfl,j,C⟩|⟨j,C⟩;·
  by_cases I:(cj t a 0 80).2.2=0;·exact .inl ⟨I,n,a1,a,j,C,(pF I).2.2,rfl⟩
  ·refine .inr ⟨I,?_⟩;rw[fR,j];simp only[Option.bind_some];rw[C];simp only[Option.bind_some];rw[(rZ I).1];rfl
 ·rw[Ar j (by omega)];exact .inr ⟨j,C⟩
theorem ya{t:ByteArray}{ls:List aB}{n:Nat}{a3 a c:Int}{k:Nat}{l:List ar}(h:C2 t ls n a3 k l a c)(hk:k<n):C2 t ls n a3 (k+1) (l++[(Aw t a c).1]) (Aw t a c).2.1 (Aw t a c).2.2:=by
 rcases h with⟨rfl,n1,a1,a2,j,C,P,R⟩|⟨j,C⟩;·
  by_cases I:(Aw t a 0).2.2=0;·have J:=(Dv I).2;exact .inl ⟨I,n1,a1,a2,j,C,P,by rw[j8,R];simp only[Option.bind_some];rw[J];rfl⟩
  ·have J:=F7 I;have U:j8 (pL t) a3 (k+1)=none:=by rw[j8,R];simp only[Option.bind_some];rw[J];rfl
   have T:=pP U (n-(k+1));rw[show k+1+(n-(k+1))=n by omega]at T;refine .inr ⟨I,?_⟩;rw[fR,j];simp only[Option.bind_some];rw[C];simp only[Option.bind_some];rw[P];simp only[Option.bind_some];rw[T];rfl
 ·exact .inr ⟨I2 j,C⟩
def C3(t:ByteArray)(m:aN)(a c:Int):Prop:=(c=0∧fR t=some (m,a))∨(c≠0∧fR t=none)
theorem AZ{t:ByteArray}{ls:List aB}{n:Nat}{a3 a c:Int}{l:List ar}(h:C2 t ls n a3 n l a c):C3 t ⟨ls,l,(aZ t a c).1⟩ (aZ t a c).2.1 (aZ t a c).2.2:=by
 rcases h with⟨rfl,R,a1,a2,j,C,J,P⟩|⟨j,C⟩;·
  by_cases I:(aZ t a 0).2.2=0;·refine .inl ⟨I,?_⟩;rw[fR,j];simp only[Option.bind_some];rw[C];simp only[Option.bind_some];rw[J];simp only[Option.bind_some];rw[P];simp only[Option.bind_some];rw[(fc I).2];rfl
  ·refine .inr ⟨I,?_⟩;rw[fR,j];simp only[Option.bind_some];rw[C];simp only[Option.bind_some];rw[J];simp only[Option.bind_some];rw[P];simp only[Option.bind_some];rw[(jC I).1];rfl
 ·rw[mT j];exact .inr ⟨j,C⟩
section
attribute [local go_sem ↓] Go.wp_at_zero Go.wp_at_succ
theorem eG{q:Bool}{m:aN}(l:aW m=q)(v:Value)(w:World)(j:m.fit)(C:bu w v m):Calls Tryz.prog 24 #[v] w fun e w'=>e=.returned (.bool q)∧Below w.heap.size w w':=by subst l;exact iA m v w j C
theorem Ef(s:ByteArray)(w:World)(C:s.size≤1048576):Calls Tryz.prog 77 #[.string s] w fun e w'=>e=.returned (.string s)∧Below w.heap.size w w':=by have I:=aa C;clear C;go_enter Tryz.func77,Tryz.ntmps77;go_wp2_with(go_at_call 114;refine(Tryz.stringslite_Clone s _ (Nat.le_trans I.out (by omega))).mono ?_;rintro e J⟨rfl,j⟩;have l:=aa j;clear j);go_ret;exact⟨rfl,l.out⟩
theorem C9(m:aN)(x:ar)(v:Value)(w:World)(hv:bu w v m)(h0:0≤x.src)(h1:x.src<(m.aj.length:Int)):Calls Tryz.prog 36 #[v,x.val] w fun e w'=>e=.returned (dD m x.src x).val∧Below w.heap.size w w':=by
 obtain⟨sv,ev,rfl,hs,he⟩:=hv;have af:=hs.jc;obtain⟨sa,sc,rfl,ac,ad,T⟩:=hs;obtain⟨ea,ec,rfl,-⟩:=he;obtain⟨P,os,rfl,l,j⟩:=T (by intro h;rw[h]at h1;simp at h1;omega);have I:x.src.toNat<m.aj.length:=by omega
 have J:=j.get x.src.toNat I;obtain⟨y,U⟩:∃y,y=m.aj[x.src.toNat]:=⟨_,rfl⟩;have HX:Hid (dD m x.src x=⟨y.kind,y.peer,x.label,x.sort⟩):=aa (by rw[dD,jH,List.getElem?_eq_getElem I,U];rfl);rw[←U]at J;obtain⟨c0,c1⟩:=J;have hi:(Tryz.prog.info? 37).map (·.size)=some 4:=by obtain⟨i0,hi,_,ab,_⟩:=info_parts Tryz.rr;rw[hi];simp[ab]
 have HI:=aa hi;clear hi U j;unfold ar.val;rw[HX.out];have R:∀A B C,Below w.heap.size w (((w.alloc A).alloc B).alloc C):=fun A B C=>((ai _ _).trans ((ai _ _).mono (by simp))).trans ((ai _ _).mono (by simp;omega));have H3:=aa R;have r0:∀A B C,(((w.alloc A).alloc B).alloc C).cell? ⟨P,os+x.src.toNat*2,none⟩=some (.int .i64 y.kind):=fun A B C=>((R A B C).cell (p:=⟨P,_,none⟩) l).trans c0;have r1:∀A B C,(((w.alloc A).alloc B).alloc C).cell? ⟨P,os+x.src.toNat*2+1,none⟩=some (.string y.peer):=fun A B C=>((R A B C).cell (p:=⟨P,_,none⟩) l).trans c1;clear R;go_enter Tryz.func36,Tryz.ntmps36;go_wp2_with fail;refine bodyPost_ret_by (results_cell_row rfl _ _ (w.heap.size+1+1) 37 #[.int .i64 y.kind,.string y.peer,.string x.label,.int .i64 x.sort] (0,0) _ rfl ?_ Tryz.underlying37 rfl HI.out) rfl ⟨rfl,(H3.out _ _ _).trans ((ai _ _).mono (H3.out _ _ _).size)⟩;rw[fL _ _ _ (by simp),bY _ _ _ (by simp)]
def sH(m:aN)(s:Int)(a:bl)(e:ar):Bool:=e.src==s&&gG a (dD m s e)
theorem CJ{m:aN}{s:Int}{a:bl}{k:Nat}(I:k<m.al.length)(J:∀j(l:j<m.al.length),j<k→sH m s a m.al[j]=false)(C:sH m s a m.al[k]=true):iL m s a=m.al[k].dst:=by
 have:m.al.find? (fun e=>e.src==s&&gG a (dD m s e))=some m.al[k]:=by rw[List.find?_eq_some_iff_getElem];exact⟨C,k,I,rfl,fun j l=>by have:=J j (by omega) l;simp only[sH]at this;simp only[this];rfl⟩
 rw[iL,this]
theorem zN{m:aN}{s:Int}{a:bl}(I:∀j(l:j<m.al.length),sH m s a m.al[j]=false):iL m s a=-1:=by
 have:m.al.find? (fun e=>e.src==s&&gG a (dD m s e))=none:=by rw[List.find?_eq_none];intro e C;obtain⟨j,l,rfl⟩:=List.getElem_of_mem C;have:=I j l;simp only[sH]at this;simp[this]
 rw[iL,this]
theorem Cw(m:aN)(s:Int)(a:bl)(v:Value)(w:World)(hv:bu w v m)(h0:0≤s)(h1:s<(m.aj.length:Int))(az:m.al.length≤80):Calls Tryz.prog 52 #[v,.int .i64 s,a.val] w fun e w'=>e=.returned (.int .i64 (iL m s a))∧Below w.heap.size w w':=by
 obtain⟨sv,ev,rfl,hs,he⟩:=hv;have a5:=hs.jc;obtain⟨sa,sc,rfl,a3,a4,ax⟩:=hs;obtain⟨ea,ec,rfl,a0,a1,af⟩:=he;obtain⟨bs,os,rfl,ay,P⟩:=ax (by intro h;rw[h]at h1;simp at h1;omega);have U:s.toNat<m.aj.length:=by omega
 have ah:=P.get s.toNat U;obtain⟨x,hx⟩:∃x,x=m.aj[s.toNat]:=⟨_,rfl⟩;have HX:Hid (jH m s=x):=aa (by rw[jH,List.getElem?_eq_getElem U,hx];rfl);rw[←hx]at ah;obtain⟨c0,c1⟩:=ah;have ao:=aa af;clear hx P af;unfold bl.val;have h3:∀A B,Below w.heap.size w ((w.alloc A).alloc B):=fun A B=>dT _ _ _;go_enter Tryz.func52,Tryz.ntmps52;go_wp2_with fail;go_loopw[8](fun i wr=>∃k:Nat,k≤m.al.length∧i=.int .i64 k∧(∀j(hj:j<m.al.length),j<k→sH m s a m.al[j]=false)∧Below (w.heap.size+3) (((w.alloc (.cells #[.slice (some ⟨bs,os,none⟩) m.aj.length sc,.slice ea m.al.length ec,.int .i64 m.start] 28)).alloc (.cells #[.int .i64 a.kind,.string a.peer,.string a.label,.int .i64 a.sort] 37)).alloc (.cells #[.int .i64 x.kind,.string x.peer] 75)) wr)(fun i _=>m.al.length-(intOf i).toNat);case atStart=>exact⟨0,Nat.zero_le _,rfl,fun j _ h=>absurd h (by omega),Below.refl _ _⟩
 case round=>
  obtain⟨k,hk,rfl,T,l⟩:=hrel;have HA:=aa T;have R:=aa l;have a8:w.heap.size+3≤wr.heap.size:=by have:=l.size;simp at this;omega
  have b1:wr.cell? ⟨w.heap.size,1,none⟩=some (.slice ea m.al.length ec):=(l.cell (p:=⟨w.heap.size,1,none⟩) (by simp)).trans (((KW _ _ _ _).cell (p:=⟨w.heap.size,1,none⟩) (by simp)).trans (by simp));have d0:wr.cell? ⟨w.heap.size+1,0,none⟩=some (.int .i64 a.kind):=(l.cell (p:=⟨w.heap.size+1,0,none⟩) (by simp)).trans (((FY _ _ _ _).cell (p:=⟨w.heap.size+1,0,none⟩) (by simp)).trans (by simp));have d1:wr.cell? ⟨w.heap.size+1,1,none⟩=some (.string a.peer):=(l.cell (p:=⟨w.heap.size+1,1,none⟩) (by simp)).trans (((FY _ _ _ _).cell (p:=⟨w.heap.size+1,1,none⟩) (by simp)).trans (by simp));have d2:wr.cell? ⟨w.heap.size+1,2,none⟩=some (.string a.label):=(l.cell (p:=⟨w.heap.size+1,2,none⟩) (by simp)).trans (((FY _ _ _ _).cell (p:=⟨w.heap.size+1,2,none⟩) (by simp)).trans (by simp));have d3:wr.cell? ⟨w.heap.size+1,3,none⟩=some (.int .i64 a.sort):=(l.cell (p:=⟨w.heap.size+1,3,none⟩) (by simp)).trans (((FY _ _ _ _).cell (p:=⟨w.heap.size+1,3,none⟩) (by simp)).trans (by simp));have g0:wr.cell? ⟨w.heap.size+1+1,0,none⟩=some (.int .i64 x.kind):=(l.cell (p:=⟨w.heap.size+1+1,0,none⟩) (by simp)).trans (wL _ _ _ _ _ _ _ rfl);have g1:wr.cell? ⟨w.heap.size+1+1,1,none⟩=some (.string x.peer):=(l.cell (p:=⟨w.heap.size+1+1,1,none⟩) (by simp)).trans (wL _ _ _ _ _ _ _ rfl);have HW:Hid (Below w.heap.size w wr):=aa (((dT _ _ _).trans ((ai _ _).mono (by simp;omega))).trans (l.mono (by omega)));clear T l;by_cases I:k<m.al.length;·
   obtain⟨b,o,rfl,av,ab⟩:=ao.out (by intro h;simp[h]at I);have J:=(ab.get k I).carry av HW.out;obtain⟨e1,C⟩:∃e1,e1=m.al[k]:=⟨_,rfl⟩;rw[←C]at J;obtain⟨f0,f1,f2,f3⟩:=J;obtain⟨q,hq⟩:∃q,(e1.src==s)=q:=⟨_,rfl⟩;obtain⟨r,hr⟩:∃r,gG a ⟨x.kind,x.peer,e1.label,e1.sort⟩=r:=⟨_,rfl⟩;have HH:Hid (sH m s a m.al[k]=(q&&r)):=aa (by rw[sH,←C,hq,dD,HX.out,hr]);have ad:Hid (sH m s a m.al[k]=true→iL m s a=e1.dst):=aa (fun h=>by rw[CJ I HA.out h,C]);have ac:Hid (sH m s a m.al[k]=false→∀j(hj:j<m.al.length),j<k+1→sH m s a m.al[j]=false):=aa (fun h j hj a2=>by
    by_cases ag:j=k;·subst ag;exact h
    ·exact HA.out j hj (by omega));have heq:∀W,(Op.equalIn 10000 37 (.agg #[.int .i64 a.kind,.string a.peer,.string a.label,.int .i64 a.sort]) (.agg #[.int .i64 x.kind,.string x.peer,.string e1.label,.int .i64 e1.sort])).run Tryz.prog W=.ok r W:=fun W=>by rw[Bm a ⟨x.kind,x.peer,e1.label,e1.sort⟩ W,hr]
   clear C ab hr;have a9:=fun A=>((ai wr A).cell (p:=⟨w.heap.size+1,0,none⟩) (by show w.heap.size+1<wr.heap.size;omega)).trans d0;have ba:=fun A=>((ai wr A).cell (p:=⟨w.heap.size+1,1,none⟩) (by show w.heap.size+1<wr.heap.size;omega)).trans d1;have bb:=fun A=>((ai wr A).cell (p:=⟨w.heap.size+1,2,none⟩) (by show w.heap.size+1<wr.heap.size;omega)).trans d2;have be:=fun A=>((ai wr A).cell (p:=⟨w.heap.size+1,3,none⟩) (by show w.heap.size+1<wr.heap.size;omega)).trans d3;have bf:=fun A=>((ai wr A).cell (p:=⟨w.heap.size+1+1,0,none⟩) (by show w.heap.size+1+1<wr.heap.size;omega)).trans g0;have bg:=fun A=>((ai wr A).cell (p:=⟨w.heap.size+1+1,1,none⟩) (by show w.heap.size+1+1<wr.heap.size;omega)).trans g1;cases q;·
    go_wp2_with fail;go_roundw;case rel=>exact⟨k+1,I,by go_num,ac.out (by rw[HH.out];rfl),R.out.trans ((ai _ _).mono (by omega))⟩
    case measure=>simp[intOf];omega
   ·cases r;·
     go_wp2_with fail;go_roundw;case rel=>exact⟨k+1,I,by go_num,ac.out (by rw[HH.out];rfl),R.out.trans ((ai _ _).mono (by omega))⟩
     case measure=>simp[intOf];omega
    ·go_wp2_with fail;go_ret;exact⟨aU (ad.out (by rw[HH.out];rfl)),HW.out.trans ((ai _ _).mono HW.out.size)⟩
  ·go_wp2_with fail;go_ret;exact⟨aU (zN (fun j hj=>HA.out j hj (by omega))),HW.out⟩
theorem fD{s:ByteArray}{n:Int}(j:ca n=s)(w:World)(h:-9223372036854775808≤n∧n≤9223372036854775807):Calls Tryz.prog 86 #[.int .i64 n] w fun e w'=>e=.returned (.string s)∧Below w.heap.size w w':=by subst j;exact yy n w h.1 h.2
theorem px{s t:ByteArray}(j:eO t=s)(w:World)(h:t.size≤maxLen):Calls Tryz.prog 87 #[.string t] w fun e w'=>e=.returned (.string s)∧Below w.heap.size w w':=by subst j;exact CF t w h
theorem AV{s:ByteArray}(h:du s=true):s.size≤20:=by simp[du]at h;exact h.1.2
theorem eQ{m:aN}(h:aW m=true):EY m:=by
 have C:=iy h;have I:=iz h;simp only[aW,Bool.and_eq_true]at h;refine⟨fun s P=>?_,fun e J=>?_,C.2,I⟩;·
  have:=List.all_eq_true.1 h.2.1 s P;simp only[iR]at this;split at this;·simp only[beq_iff_eq]at this;have l:=congrArg List.length this;rw[Go.ByteArray.toList_eq]at l;simp at l;rw[l];simp
  ·simp only[Bool.and_eq_true]at this;exact AV this.1
 ·obtain⟨i,hi,rfl⟩:=List.getElem_of_mem J;have j:=List.all_eq_true.1 h.2.2 i (List.mem_range.2 hi);rw[dF,List.getElem?_eq_getElem hi]at j;simp only[Bool.and_eq_true,pV]at j;exact AV j.1.2.2.1
theorem py{m:aN}(h:aW m=true):0≤m.start∧m.start<(m.aj.length:Int):=by simp[aW,iF,fj]at h;omega
theorem dA{z:Int}(j:0≤z)(l:z≤1000000):-9223372036854775808≤z∧z≤9223372036854775807:=⟨by omega,by omega⟩
theorem xw{l l':List ByteArray}{c:Nat}(h:∀x∈l++l',x.size≤c):(dr l).size≤l.length*c:=by rw[nS];exact lC (fun x j=>h x (List.mem_append_left _ j))
theorem ru{m:aN}(h:aW m=true){s:aB}(C:s∈m.aj):0≤s.kind∧s.kind≤2:=by
 simp only[aW,Bool.and_eq_true]at h;have j:=List.all_eq_true.1 h.2.1 s C;simp only[iR]at j;split at j;·rename_i l;simp at l;omega
 ·simp[fj]at j;omega
theorem zB(m:aN)(v:Value)(w:World)(hm:aW m=true)(hf:m.fit)(hv:bu w v m):Calls Tryz.prog 54 #[v] w fun e w'=>e=.returned (.string (cW m))∧Below w.heap.size w w':=by
 have HM:=aa hm;have HF:=aa hf;have bk:=aa (jW (eQ hm));have ch:=iy hm;have cl:=iz hm;have cx:=py hm;obtain⟨sv,ev,rfl,hs,he⟩:=hv;obtain⟨sa,sc,rfl,cu,cv,bs⟩:=hs;obtain⟨ea,ec,rfl,cn,cp,br⟩:=he;have b6:=aa bs;have bz:=aa br;clear bs br hm hf;have b3:Hid (∀k,k≤m.aj.length→(dr (cD m k)).size≤15000):=aa (fun k hk=>by
  have h1:=xw (l:=cD m k) (l':=(m.aj.drop k).flatMap eh++ca (m.al.length:Int)::(m.al.flatMap dE++[ca m.start])) (c:=30) (fun x hx=>bk.out x (by
   have e:dw m=cD m k++((m.aj.drop k).flatMap eh++ca (m.al.length:Int)::(m.al.flatMap dE++[ca m.start])):=by
    rw[dw,cC,List.take_length,cD,cD,List.take_length];conv=>lhs;rw[←List.take_append_drop k m.aj,List.flatMap_append]
    simp only[List.cons_append,List.append_assoc,List.take_append_drop]
   rw[e];exact hx));rw[tl m k hk]at h1;omega);have bL:Hid (∀k,k≤m.al.length→(dr (cC m k)).size≤15000):=aa (fun k hk=>by
  have h1:=xw (l:=cC m k) (l':=(m.al.drop k).flatMap dE++[ca m.start]) (c:=30) (fun x hx=>bk.out x (by
   have e:dw m=cC m k++((m.al.drop k).flatMap dE++[ca m.start]):=by
    rw[dw,cC,cC,List.take_length];conv=>lhs;rw[←List.take_append_drop k m.al,List.flatMap_append]
    simp only[List.cons_append,List.append_assoc,List.take_append_drop]
   rw[e];exact hx));rw[lp m k hk]at h1;omega);go_enter Tryz.func54,Tryz.ntmps54;go_wp2_with(go_at_call 86;refine(fD rfl _ (dA (by omega) (by omega))).mono ?_;rintro e w1⟨rfl,av⟩;have bm:Hid (Below w.heap.size w w1):=aa ((ai _ _).trans (av.mono (by simp)));have ab:w.heap.size<w1.heap.size:=(by have:=av.size;simp at this;omega);have b0:=(av.cell (p:=⟨w.heap.size,0,none⟩) (by simp));have b1:=(av.cell (p:=⟨w.heap.size,1,none⟩) (by simp));have b2:=(av.cell (p:=⟨w.heap.size,2,none⟩) (by simp));simp at b0 b1 b2;clear av);go_loopw[3,4](fun tv i wr=>∃k:Nat,k≤m.aj.length∧i=.int .i64 k∧tv=.string (dr (cD m k))∧Below w1.heap.size w1 wr)(fun _ i _=>m.aj.length-(intOf i).toNat);case atStart=>exact⟨0,Nat.zero_le _,rfl,by simp only[cD,List.take_zero,List.flatMap_nil];rw[jg],Below.refl _ _⟩
 case round=>
  obtain⟨k,hk,rfl,rfl,j⟩:=hrel;have J:=aa j;have c0:=(j.cell (p:=⟨w.heap.size,0,none⟩) ab).trans b0;have c1:=(j.cell (p:=⟨w.heap.size,1,none⟩) ab).trans b1;have c2:=(j.cell (p:=⟨w.heap.size,2,none⟩) ab).trans b2;have a2:w.heap.size<wr.heap.size:=Nat.lt_of_lt_of_le ab j.size;have HW:Hid (Below w.heap.size w wr):=aa (bm.out.trans (j.mono (Nat.le_of_lt ab)));have ag:=b3.out k hk;clear j;by_cases ax:k<m.aj.length;·
   obtain⟨b,o,rfl,bb,af⟩:=b6.out (by intro h;simp[h]at ax);have U:=(af.get k ax).carry bb HW.out;obtain⟨P,ac⟩:∃P,P=m.aj[k]:=⟨_,rfl⟩;have T:P∈m.aj:=by rw[ac];exact List.getElem_mem ax
   rw[←ac]at U;obtain⟨d0,d1⟩:=U;have HK:=aa (ru HM.out T);have a0:=(eQ HM.out).1 P T;have HP:=aa (show P.peer.size≤maxLen by unfold maxLen;omega);obtain⟨s1,C⟩:∃s1,ca P.kind=s1:=⟨_,rfl⟩;obtain⟨s2,I⟩:∃s2,eO P.peer=s2:=⟨_,rfl⟩;have b9:s1.size≤10:=by rw[←C];exact ff _
   have cc:s2.size≤30:=by rw[←I];exact lD _ a0
   have a8:Hid (dr (cD m (k+1))=dr (cD m k)++s1++s2):=aa (by rw[qQ ax,ko,←ac,eh,C,I,jA,jg,ByteArray.append_assoc]);have a9:=aa C;have ba:=aa I;obtain⟨acc,R⟩:∃acc,dr (cD m k)=acc:=⟨_,rfl⟩;rw[R]at ag⊢;have ay:=aa R;have a3:¬9223372036854775807<acc.size+s1.size:=by omega
   have b8:¬9223372036854775807<acc.size+s1.size+s2.size:=by omega
   clear ac af T C I R;go_wp2_with fail;refine aK (by kernel_rfl) (by kernel_rfl) (fun W hW=>?_);have be:=aH W;have f0:=ae (w:=W) (by rw[hW];exact c0);have k0:=ae (w:=W) (by rw[hW];exact d0);have k1:=ae (w:=W) (by rw[hW];exact d1);have bn:=aa hW;clear hW;repeat(go_big_quiet_step(first|(go_at_call 86;exact aD (fD a9.out _ (dA HK.out.1 (Int.le_trans HK.out.2 (by omega)))))|(go_at_call 87;exact aD (px ba.out _ HP.out))))
   refine wpQuiet_nil ?_;intro w2 bf;have a1:Hid (Below wr.heap.size wr w2):=aa (by rw[bn.out]at bf;exact bf);clear bf be f0 k0 k1 bn;go_wp2_with fail;go_roundw;case rel=>exact⟨k+1,ax,by go_num,by rw[a8.out,ay.out],J.out.trans (a1.out.mono J.out.size)⟩
   case measure=>simp[intOf];omega
  ·have bi:Hid (cD m k=cD m m.aj.length):=aa (by rw[show k=m.aj.length by omega]);have a3:¬9223372036854775807<(dr (cD m k)).size+(ca (m.al.length:Int)).size:=by have:=ff (m.al.length:Int);omega
   go_wp2_with(go_at_call 86;refine(fD rfl _ (dA (by omega) (by omega))).mono ?_;rintro e w2⟨rfl,az⟩;have a1:Hid (Below w1.heap.size w1 w2):=aa (J.out.trans (az.mono J.out.size));have e1:=(az.cell (p:=⟨w.heap.size,1,none⟩) a2).trans c1;have e2:=(az.cell (p:=⟨w.heap.size,2,none⟩) a2).trans c2;have a4:w.heap.size<w2.heap.size:=Nat.lt_of_lt_of_le a2 az.size;clear az);go_loopw[3,5](fun tv i cg=>∃k2:Nat,k2≤m.al.length∧i=.int .i64 k2∧tv=.string (dr (cC m k2))∧Below w2.heap.size w2 cg)(fun _ i _=>m.al.length-(intOf i).toNat);case atStart=>exact⟨0,Nat.zero_le _,rfl,by rw[cC,ko,bi.out];simp only[List.take_zero,List.flatMap_nil];rw[jg],Below.refl _ _⟩
   case round=>
    clear c0 c1 c2 a2 HW ag ax a3 bi J;obtain⟨k2,b7,rfl,rfl,j⟩:=hrel;have J:=aa j;have c1:=(j.cell (p:=⟨w.heap.size,1,none⟩) a4).trans e1;have c2:=(j.cell (p:=⟨w.heap.size,2,none⟩) a4).trans e2;have HW:Hid (Below w.heap.size w wr):=aa (bm.out.trans ((a1.out.trans (j.mono a1.out.size)).mono (Nat.le_of_lt ab)));have ag:=bL.out k2 b7;clear j;by_cases ad:k2<m.al.length;·
     obtain⟨b,o,rfl,bb,af⟩:=bz.out (by intro h;simp[h]at ad);have U:=(af.get k2 ad).carry bb HW.out;obtain⟨P,ac⟩:∃P,P=m.al[k2]:=⟨_,rfl⟩;have T:P∈m.al:=by rw[ac];exact List.getElem_mem ad
     rw[←ac]at U;obtain⟨d0,d1,d2,d3⟩:=U;have HK:=aa (cw HM.out T);have a0:=(eQ HM.out).2.1 P T;have HP:=aa (show P.label.size≤maxLen by unfold maxLen;omega);obtain⟨s1,C⟩:∃s1,ca P.src=s1:=⟨_,rfl⟩;obtain⟨s2,I⟩:∃s2,eO P.label=s2:=⟨_,rfl⟩;obtain⟨s3,ah⟩:∃s3,ca P.sort=s3:=⟨_,rfl⟩;obtain⟨s4,ao⟩:∃s4,ca P.dst=s4:=⟨_,rfl⟩;have b9:s1.size≤10:=by rw[←C];exact ff _
     have cc:s2.size≤30:=by rw[←I];exact lD _ a0
     have cy:s3.size≤10:=by rw[←ah];exact ff _
     have cz:s4.size≤10:=by rw[←ao];exact ff _
     have a8:Hid (dr (cC m (k2+1))=dr (cC m k2)++s1++s2++s3++s4):=aa (by rw[qP ad,ko,←ac,dE,C,I,ah,ao,jA,jA,jA,jg,ByteArray.append_assoc,ByteArray.append_assoc,ByteArray.append_assoc]);have a9:=aa C;have ba:=aa I;have b4:=aa ah;have b5:=aa ao;obtain⟨acc,R⟩:∃acc,dr (cC m k2)=acc:=⟨_,rfl⟩;rw[R]at ag⊢;have ay:=aa R;have a3:¬9223372036854775807<acc.size+s1.size:=by omega
     have b8:¬9223372036854775807<acc.size+s1.size+s2.size:=by omega
     have cr:¬9223372036854775807<acc.size+s1.size+s2.size+s3.size:=by omega
     have cs:¬9223372036854775807<acc.size+s1.size+s2.size+s3.size+s4.size:=by omega
     clear ac af T C I ah ao R;go_wp2_with fail;refine aK (by kernel_rfl) (by kernel_rfl) (fun W hW=>?_);have be:=aH W;have k0:=ae (w:=W) (b:=wr.heap.size) (o:=0) (v:=.int .i64 P.src) (by rw[hW];simp);have k1:=ae (w:=W) (b:=wr.heap.size) (o:=1) (v:=.string P.label) (by rw[hW];simp);have cf:=ae (w:=W) (b:=wr.heap.size) (o:=2) (v:=.int .i64 P.sort) (by rw[hW];simp);have k3:=ae (w:=W) (b:=wr.heap.size) (o:=3) (v:=.int .i64 P.dst) (by rw[hW];simp);have bg:Hid (Below wr.heap.size wr W):=aa (by rw[hW];exact ai _ _);clear hW;repeat(go_big_quiet_step(first|(go_at_call_of 86 P.src;exact aD (fD a9.out _ (dA (by have:=HK.out;omega) (by have:=HK.out;omega))))|(go_at_call_of 86 P.sort;exact aD (fD b4.out _ (dA (by have:=HK.out;omega) (by have:=HK.out;omega))))|(go_at_call_of 86 P.dst;exact aD (fD b5.out _ (dA (by have:=HK.out;omega) (by have:=HK.out;omega))))|(go_at_call 87;exact aD (px ba.out _ HP.out))))
     refine wpQuiet_nil ?_;intro w3 bv;have a5:Hid (Below wr.heap.size wr w3):=aa (bg.out.trans (bv.mono bg.out.size));clear bv be k0 k1 cf k3;go_wp2_with fail;go_roundw;case rel=>exact⟨k2+1,ad,by go_num,by rw[a8.out,ay.out],J.out.trans (a5.out.mono J.out.size)⟩
     case measure=>simp[intOf];omega
    ·have bx:Hid (cC m k2=cC m m.al.length):=aa (by rw[show k2=m.al.length by omega]);have a3:¬9223372036854775807<(dr (cC m k2)).size+(ca m.start).size:=by have:=ff m.start;omega
     go_wp2_with(go_at_call 86;refine(fD rfl _ (dA (by omega) (by omega))).mono ?_;rintro e w3⟨rfl,bp⟩;have a5:=aa bp;clear bp);go_ret;exact⟨dY (by rw[cW,dw,ko,jg,bx.out]),HW.out.trans (a5.out.mono HW.out.size)⟩
def di(m:aN):ByteArray:=if aW m then cW m else ByteArray.empty
theorem jE(m:aN)(v:Value)(w:World)(hf:m.fit)(U:bu w v m):Calls Tryz.prog 22 #[v] w fun e w'=>e=.returned (.string (di m))∧Below w.heap.size w w':=by
 have J:=aa hf;have R:Hid (∀W,Below w.heap.size w W→bu W v m):=aa (fun W hb=>U.carry hb);obtain⟨sa,sc,ea,ec,rfl⟩:=U.shape;obtain⟨q,T⟩:∃q,aW m=q:=⟨_,rfl⟩;have P:=aa T;have HR:Hid (di m=if q then cW m else ByteArray.empty):=aa (by rw[di,T]);clear T hf U;unfold qD;cases q;·go_enter Tryz.func22,Tryz.ntmps22;go_wp2_with(go_at_call 25;refine(bM P.out _ _ J.out (R.out _ (ai _ _))).mono ?_;rintro e w1⟨rfl,j⟩;have l:Hid (Below w.heap.size w w1):=aa ((ai _ _).trans (j.mono (by simp)));clear j);go_ret;exact⟨dY HR.out,l.out⟩
 ·go_enter Tryz.func22,Tryz.ntmps22;go_wp2_with(first|(go_at_call 25;refine(bM P.out _ _ J.out (R.out _ (ai _ _))).mono ?_;rintro e w1⟨rfl,j⟩;have l:Hid (Below w.heap.size w w1):=aa ((ai _ _).trans (j.mono (by simp)));have b0:=(j.cell (p:=⟨w.heap.size,0,none⟩) (by simp));have b1:=(j.cell (p:=⟨w.heap.size,1,none⟩) (by simp));have b2:=(j.cell (p:=⟨w.heap.size,2,none⟩) (by simp));simp at b0 b1 b2;clear j)|(go_at_call 54;refine(zB m _ _ P.out J.out (R.out _ l.out)).mono ?_;rintro e w2⟨rfl,C⟩;have I:=aa C;clear C));go_ret;exact⟨dY HR.out,l.out.trans (I.out.mono l.out.size)⟩
end
def rf(t:ByteArray)(m:aN)(a:Int):Bool:=decide (a=(t.size:Int))&&aW m
def eK(t:ByteArray):aN:=if 8000<t.size then dG else match fR t with|some (m,a)=>if rf t m a then m else dG|none=>dG
def fS(t:ByteArray):Int:=if 8000<t.size then 2 else match fR t with|some (m,a)=>if rf t m a then 0 else 3|none=>3
theorem mP{t:ByteArray}(h:8000<t.size):eK t=dG∧fS t=2:=by unfold eK fS;rw[if_pos h,if_pos h];exact⟨rfl,rfl⟩
theorem nV{t:ByteArray}(h:¬8000<t.size)(j:fR t=none):eK t=dG∧fS t=3:=by unfold eK fS;rw[if_neg h,if_neg h,j];exact⟨rfl,rfl⟩
theorem gw{t:ByteArray}{m:aN}{a:Int}(h:¬8000<t.size)(j:fR t=some (m,a)):eK t=(if rf t m a then m else dG)∧fS t=(if rf t m a then 0 else 3):=by unfold eK fS;rw[if_neg h,if_neg h,j];exact⟨rfl,rfl⟩
theorem pM{t:ByteArray}{m:aN}{a:Int}(I:fR t=some (m,a)):m.fit:=by
 obtain⟨_,J,P,l,C⟩:=nL I;refine⟨fun x j=>?_,fun x j=>?_,by omega,by omega⟩;·have:=l x j;unfold aB.fit;omega
 ·have:=C x j;unfold ar.fit;omega
theorem vG{t:ByteArray}{m:aN}{a:Int}(U:fR t=some (m,a)):rf t m a=true↔(di m=t∧t.toList≠[]):=by
 obtain⟨g,_⟩:=nL U;have e:=g.eq;have j:=congrArg List.length e;rw[List.length_append,List.length_take,List.length_take]at j;have I:(bL t).length=t.size:=by unfold bL;rw[←Lib.size_eq]
 have ad:=g.lo;have ac:=g.le;have ab:=g.hi;rw[I]at j;unfold rf;simp only[Bool.and_eq_true,decide_eq_true_eq];constructor;·
  rintro⟨rfl,C⟩;have J:cW m=t:=by apply Am;rw[Int.toNat_natCast,Int.toNat_zero,List.take_zero,List.nil_append,List.take_of_length_le (by rw[I];exact Nat.le_refl _)]at e;exact e.symm
  refine⟨by rw[di,if_pos C];exact J,fun h=>?_⟩;have R:(bL (ca (m.aj.length:Int))).length≤(bL (cW m)).length:=by rw[cW,vk,dw,cC,cD];simp
  have h6:1≤(bL (ca (m.aj.length:Int))).length:=by show 1≤(kb (dC (m.aj.length:Int))).length;unfold kb;simp
  rw[J]at R;rw[Go.ByteArray.toList_eq]at h;have h7:(bL t).length=0:=by unfold bL;rw[h];rfl
  omega
 ·rintro⟨l,P⟩;have C:aW m=true:=by
   cases T:aW m;·rw[di,T]at l;exfalso;apply P;rw[←l,if_neg (by simp),Go.ByteArray.toList_eq];rfl
   ·rfl
  rw[di,if_pos C]at l;rw[l,I]at j;exact⟨by omega,C⟩
section
attribute [local go_sem ↓] Go.wp_at_zero Go.wp_at_succ
theorem im{q:Bool}{m:aN}{s:Int}(hq:(aW m&&fj s 0 ((m.aj.length:Int)-1))=q)(v:Value)(w:World)(hf:m.fit)(hv:bu w v m):Calls Tryz.prog 34 #[v,.int .i64 s] w fun e w'=>e=.returned (.bool q)∧Below w.heap.size w w':=by
 have HF:=aa hf;have HV:Hid (∀W,Below w.heap.size w W→bu W v m):=aa (fun W hb=>hv.carry hb);obtain⟨sa,sc,ea,ec,rfl⟩:=hv.shape;obtain⟨q1,U⟩:∃q1,aW m=q1:=⟨_,rfl⟩;obtain⟨q2,ab⟩:∃q2,fj s 0 ((m.aj.length:Int)-1)=q2:=⟨_,rfl⟩;have HQ:Hid (q=(q1&&q2)):=aa (by rw[←hq,U,ab]);have R:=aa U;have T:=aa ab;clear U ab hf hv hq;have P:Hid (∀W A,W=w.alloc A→Below w.heap.size w W):=aa (fun W A l=>by rw[l];exact ai _ _);unfold qD;cases q1;·go_enter Tryz.func34,Tryz.ntmps34;go_wp2_with(refine bj 5 (fun W l=>?_);have J:=aH W;have f0:=ae (w:=W) (b:=w.heap.size) (o:=0) (v:=.slice sa m.aj.length sc) (by rw[l];simp);have f1:=ae (w:=W) (b:=w.heap.size) (o:=1) (v:=.slice ea m.al.length ec) (by rw[l];simp);have f2:=ae (w:=W) (b:=w.heap.size) (o:=2) (v:=.int .i64 m.start) (by rw[l];simp);have j:=aa (P.out W _ l);clear l;(repeat(go_big_quiet_step(first|(go_at_call 24;exact aD (eG R.out _ _ HF.out ((HV.out _ j.out).carry (Grown.dN _))))|(go_at_call 56;exact aD (ck T.out _ _ ((HV.out _ j.out).carry (Grown.dN _)))))));refine wpQuiet_nil ?_;intro w1 C;have I:=aa C;clear C J f0 f1 f2);go_ret;exact⟨aF (by rw[HQ.out];rfl),j.out.trans (I.out.mono j.out.size)⟩
 ·cases q2;·go_enter Tryz.func34,Tryz.ntmps34;go_wp2_with(refine bj 5 (fun W l=>?_);have J:=aH W;have f0:=ae (w:=W) (b:=w.heap.size) (o:=0) (v:=.slice sa m.aj.length sc) (by rw[l];simp);have f1:=ae (w:=W) (b:=w.heap.size) (o:=1) (v:=.slice ea m.al.length ec) (by rw[l];simp);have f2:=ae (w:=W) (b:=w.heap.size) (o:=2) (v:=.int .i64 m.start) (by rw[l];simp);have j:=aa (P.out W _ l);clear l;(repeat(go_big_quiet_step(first|(go_at_call 24;exact aD (eG R.out _ _ HF.out ((HV.out _ j.out).carry (Grown.dN _))))|(go_at_call 56;exact aD (ck T.out _ _ ((HV.out _ j.out).carry (Grown.dN _)))))));refine wpQuiet_nil ?_;intro w1 C;have I:=aa C;clear C J f0 f1 f2);go_ret;exact⟨aF (by rw[HQ.out];rfl),j.out.trans (I.out.mono j.out.size)⟩
  ·go_enter Tryz.func34,Tryz.ntmps34;go_wp2_with(refine bj 5 (fun W l=>?_);have J:=aH W;have f0:=ae (w:=W) (b:=w.heap.size) (o:=0) (v:=.slice sa m.aj.length sc) (by rw[l];simp);have f1:=ae (w:=W) (b:=w.heap.size) (o:=1) (v:=.slice ea m.al.length ec) (by rw[l];simp);have f2:=ae (w:=W) (b:=w.heap.size) (o:=2) (v:=.int .i64 m.start) (by rw[l];simp);have j:=aa (P.out W _ l);clear l;(repeat(go_big_quiet_step(first|(go_at_call 24;exact aD (eG R.out _ _ HF.out ((HV.out _ j.out).carry (Grown.dN _))))|(go_at_call 56;exact aD (ck T.out _ _ ((HV.out _ j.out).carry (Grown.dN _)))))));refine wpQuiet_nil ?_;intro w1 C;have I:=aa C;clear C J f0 f1 f2);go_ret;exact⟨aF (by rw[HQ.out];rfl),j.out.trans (I.out.mono j.out.size)⟩
theorem Ag{m:aN}(j:m.fit){e:ar}(l:e∈m.al)(s:Int):(dD m s e).fit:=by refine⟨?_,j.2.1 e l⟩;show(jH m s).peer.size≤1048576;unfold jH;cases h:m.aj[s.toNat]? with|none=>simp|some x=>exact j.1 x (List.mem_of_getElem? h)
theorem GP(a:bl)(w:World)(hf:a.fit):Calls Tryz.prog 35 #[a.val] w fun e w'=>e=.returned a.val∧Below w.heap.size w w':=by
 have HF:=aa hf;unfold bl.val;have hi:(Tryz.prog.info? 37).map (·.size)=some 4:=by obtain⟨i0,hi,_,ag,_⟩:=info_parts Tryz.rr;rw[hi];simp[ag]
 have HI:=aa hi;clear hi hf;go_enter Tryz.func35,Tryz.ntmps35;go_wp2_with((go_at_call 77;refine(Ef a.peer _ HF.out.1).mono ?_;rintro e w1⟨rfl,j⟩;have p0:=(j.cell (p:=⟨w.heap.size,0,none⟩) (by simp;omega));have p1:=(j.cell (p:=⟨w.heap.size,1,none⟩) (by simp;omega));have p2:=(j.cell (p:=⟨w.heap.size,2,none⟩) (by simp;omega));have p3:=(j.cell (p:=⟨w.heap.size,3,none⟩) (by simp;omega));simp at p0 p1 p2 p3;have q0:=(j.cell (p:=⟨w.heap.size+1,0,none⟩) (by simp));have q1:=(j.cell (p:=⟨w.heap.size+1,1,none⟩) (by simp));have q2:=(j.cell (p:=⟨w.heap.size+1,2,none⟩) (by simp));have q3:=(j.cell (p:=⟨w.heap.size+1,3,none⟩) (by simp));simp at q0 q1 q2 q3;have ac:=(j.frozen (p:=⟨w.heap.size,0,none⟩) (by simp;omega));have ad:=(j.frozen (p:=⟨w.heap.size,1,none⟩) (by simp;omega));have I:=(j.frozen (p:=⟨w.heap.size,2,none⟩) (by simp;omega));have af:=(j.frozen (p:=⟨w.heap.size,3,none⟩) (by simp;omega));simp at ac ad I af;have J:=(j.frozen (p:=⟨w.heap.size+1,0,none⟩) (by simp));have P:=(j.frozen (p:=⟨w.heap.size+1,1,none⟩) (by simp));have R:=(j.frozen (p:=⟨w.heap.size+1,2,none⟩) (by simp));have T:=(j.frozen (p:=⟨w.heap.size+1,3,none⟩) (by simp));simp at J P R T;have ag:w.heap.size+1<w1.heap.size:=(by have:=j.size;simp at this;omega);have ab:Hid (Below w.heap.size w w1):=aa ((dT _ _ _).trans (j.mono (by simp;omega)));clear j));go_wp2_with(go_at_call 77;refine(Ef a.label _ HF.out.2).mono ?_;rintro e w2⟨rfl,l⟩;have r0:=(l.cell (p:=⟨w.heap.size,0,none⟩) (by simp;omega)).trans ((World.cell?_setCell_other _ _ _ _ (by simp)).trans p0);have r1:=(l.cell (p:=⟨w.heap.size,1,none⟩) (by simp;omega)).trans (World.cell?_setCell_same _ _ _ p1);have r2:=(l.cell (p:=⟨w.heap.size,2,none⟩) (by simp;omega)).trans ((World.cell?_setCell_other _ _ _ _ (by simp)).trans p2);have r3:=(l.cell (p:=⟨w.heap.size,3,none⟩) (by simp;omega)).trans ((World.cell?_setCell_other _ _ _ _ (by simp)).trans p3);have s0:=(l.cell (p:=⟨w.heap.size+1,0,none⟩) (by simp;omega)).trans ((World.cell?_setCell_other _ _ _ _ (by simp)).trans q0);have s1:=(l.cell (p:=⟨w.heap.size+1,1,none⟩) (by simp;omega)).trans ((World.cell?_setCell_other _ _ _ _ (by simp)).trans q1);have s2:=(l.cell (p:=⟨w.heap.size+1,2,none⟩) (by simp;omega)).trans ((World.cell?_setCell_other _ _ _ _ (by simp)).trans q2);have s3:=(l.cell (p:=⟨w.heap.size+1,3,none⟩) (by simp;omega)).trans ((World.cell?_setCell_other _ _ _ _ (by simp)).trans q3);have ax:=(l.frozen (p:=⟨w.heap.size,2,none⟩) (by simp;omega)).trans ((World.frozen?_setCell _ _ _ _).trans I);have ay:=(l.frozen (p:=⟨w.heap.size+1,0,none⟩) (by simp;omega)).trans ((World.frozen?_setCell _ _ _ _).trans J);have az:=(l.frozen (p:=⟨w.heap.size+1,1,none⟩) (by simp;omega)).trans ((World.frozen?_setCell _ _ _ _).trans P);have a0:=(l.frozen (p:=⟨w.heap.size+1,2,none⟩) (by simp;omega)).trans ((World.frozen?_setCell _ _ _ _).trans R);have a1:=(l.frozen (p:=⟨w.heap.size+1,3,none⟩) (by simp;omega)).trans ((World.frozen?_setCell _ _ _ _).trans T);have ah:Hid (Below w.heap.size w w2):=aa ((ab.out.setCell (p:=⟨w.heap.size,1,none⟩) (Nat.le_refl _) _).trans (l.mono (by simp;exact ab.out.size)));clear l p0 p1 p2 p3 q0 q1 q2 q3 ac ad I af J P R T);have C:∀(W:World)(x:Value)(p q:Addr),p≠q→(W.setCell p x).cell? q=W.cell? q:=fun W x p q av=>World.cell?_setCell_other _ _ _ _ av;obtain⟨W,U⟩:∃W,W=(((((w2.setCell ⟨w.heap.size,2,none⟩ (.string a.label)).setCell ⟨w.heap.size+1,0,none⟩ (.int .i64 a.kind)).setCell ⟨w.heap.size+1,1,none⟩ (.string a.peer)).setCell ⟨w.heap.size+1,2,none⟩ (.string a.label)).setCell ⟨w.heap.size+1,3,none⟩ (.int .i64 a.sort)):=⟨_,rfl⟩;have z0:W.cell? ⟨w.heap.size+1,0,none⟩=some (.int .i64 a.kind):=by rw[U,C _ _ _ _ (by simp),C _ _ _ _ (by simp),C _ _ _ _ (by simp)];exact World.cell?_setCell_same _ _ _ (u:=.int .i64 0) (by rw[C _ _ _ _ (by simp)];exact s0)
 have z1:W.cell? ⟨w.heap.size+1,1,none⟩=some (.string a.peer):=by rw[U,C _ _ _ _ (by simp),C _ _ _ _ (by simp)];exact World.cell?_setCell_same _ _ _ (by rw[C _ _ _ _ (by simp),C _ _ _ _ (by simp)];exact s1)
 have z2:W.cell? ⟨w.heap.size+1,2,none⟩=some (.string a.label):=by rw[U,C _ _ _ _ (by simp)];exact World.cell?_setCell_same _ _ _ (by rw[C _ _ _ _ (by simp),C _ _ _ _ (by simp),C _ _ _ _ (by simp)];exact s2)
 have z3:W.cell? ⟨w.heap.size+1,3,none⟩=some (.int .i64 a.sort):=by rw[U];exact World.cell?_setCell_same _ _ _ (u:=.int .i64 0) (by rw[C _ _ _ _ (by simp),C _ _ _ _ (by simp),C _ _ _ _ (by simp),C _ _ _ _ (by simp)];exact s3)
 rw[←U];have ao:Below w.heap.size w W:=by rw[U];exact((((ah.out.setCell (p:=⟨w.heap.size,2,none⟩) (Nat.le_refl _) _).setCell (p:=⟨w.heap.size+1,0,none⟩) (by simp) _).setCell (p:=⟨w.heap.size+1,1,none⟩) (by simp) _).setCell (p:=⟨w.heap.size+1,2,none⟩) (by simp) _).setCell (p:=⟨w.heap.size+1,3,none⟩) (by simp) _
 refine bodyPost_ret_by (v:=.agg #[.int .i64 a.kind,.string a.peer,.string a.label,.int .i64 a.sort]) ?_ rfl ⟨rfl,ao⟩;unfold results;go_simp
end
end Go.Proofs.YtlbcnmcfljaijaaGreat
