import Derived.Test.YtdiiiijkhpdcbaaGreatDoorRV10
import Derived.Test.YtdiiiijkhpdcbaaGreatDoorRV08
import Derived.DeepKeys4
import Derived.Deep.DrawnRows
import Derived.WideKeyEntry
import Derived.Test.YtdiiiijkhpdcbaaGreatDoorRV01
namespace Go.Proofs.YtdiiiijkhpdcbaaGreatDoor
open Go.RowKit
set_option linter.unusedSimpArgs false
set_option linter.unusedVariables false
set_option maxHeartbeats 1000000
set_option maxRecDepth 100000
theorem Ep{q:Bool}{m:aF}(R:ig m=q)(l:m.ok)(w:World):Calls Tryz.prog 154 #[m.val] w fun e w'=>e=.returned (.bool q)/\Below w.heap.size w w':=by
 have j:=aa l;obtain⟨a,C⟩:∃a,cA m.cE=a:=⟨_,rfl⟩;obtain⟨b,I⟩:∃b,cA m.to=b:=⟨_,rfl⟩;obtain⟨c,J⟩:∃c,cA m.label=c:=⟨_,rfl⟩;obtain⟨d,hd⟩:∃d,(m.cE.toList==m.to.toList)=d:=⟨_,rfl⟩;obtain⟨s,P⟩:∃s,sE m.sort=s:=⟨_,rfl⟩;have HQ:Hid (q=(a&&(b&&(c&&(!d&&s))))):=aa (by rw[<-R,ig,C,I,J,hd,P]);have T:=aa C;have U:=aa I;have HC:=aa J;have HS:=aa P;clear R l C I J P;unfold aF.val;cases a;case' true=>cases b
 case' true.true=>cases c
 case' true.true.true=>cases d
 all_goals go_enter Tryz.func154,Tryz.ntmps154;go_wp2_with(first|(go_at_call_of 177 m.cE;refine(vk T.out j.out.1 _).mono ?_;rintro e w'⟨rfl,rfl⟩)|(go_at_call_of 177 m.to;refine(vk U.out j.out.2.1 _).mono ?_;rintro e w'⟨rfl,rfl⟩)|(go_at_call_of 177 m.label;refine(vk HC.out j.out.2.2 _).mono ?_;rintro e w'⟨rfl,rfl⟩)|(go_at_call 178;refine(Gv HS.out _).mono ?_;rintro e w'⟨rfl,rfl⟩));go_ret;exact⟨aC (by rw[HQ.out];simp[*]),ae _ _⟩
theorem wD{q:Bool}{m:aF}(R:ig m=q)(l:m.ok)(w:World):Calls Tryz.prog 164 #[m.val] w fun e w'=>e=.returned (.bool q)/\Below w.heap.size w w':=by
 have j:=aa l;obtain⟨a,C⟩:∃a,cA m.cE=a:=⟨_,rfl⟩;obtain⟨b,I⟩:∃b,cA m.to=b:=⟨_,rfl⟩;obtain⟨c,J⟩:∃c,cA m.label=c:=⟨_,rfl⟩;obtain⟨d,hd⟩:∃d,(m.cE.toList==m.to.toList)=d:=⟨_,rfl⟩;obtain⟨s,P⟩:∃s,sE m.sort=s:=⟨_,rfl⟩;have HQ:Hid (q=(a&&(b&&(c&&(!d&&s))))):=aa (by rw[<-R,ig,C,I,J,hd,P]);have T:=aa C;have U:=aa I;have HC:=aa J;have HS:=aa P;clear R l C I J P;unfold aF.val;cases a;case' true=>cases b
 case' true.true=>cases c
 case' true.true.true=>cases d
 all_goals go_enter Tryz.func164,Tryz.ntmps164;go_wp2_with(first|(go_at_call_of 207 m.cE;refine(jG T.out j.out.1 _).mono ?_;rintro e w'⟨rfl,rfl⟩)|(go_at_call_of 207 m.to;refine(jG U.out j.out.2.1 _).mono ?_;rintro e w'⟨rfl,rfl⟩)|(go_at_call_of 207 m.label;refine(jG HC.out j.out.2.2 _).mono ?_;rintro e w'⟨rfl,rfl⟩)|(go_at_call 211;refine(FD HS.out _).mono ?_;rintro e w'⟨rfl,rfl⟩));go_ret;exact⟨aC (by rw[HQ.out];simp[*]),ae _ _⟩
theorem Gp(l:List aF)(f t:ByteArray)(v:Value)(w:World)(ah:l.length<=4096)(hv:bq w w.heap.size v l):Calls Tryz.prog 155 #[v,.string f,.string t] w fun e w'=>e=.returned (.int .i64 (fI f t l:Nat))/\Below w.heap.size w w':=by
 obtain⟨ao,cap,rfl,hc,hm,hr⟩:=hv;have HR:=aa hr;clear hr;have ab:=aa (show fI f t l=fI f t (l.take l.length)by rw[List.take_length]);go_enter Tryz.func155,Tryz.ntmps155;go_wp2_with fail;go_loopw[7,8](fun n i wr=>∃k:Nat,k<=l.length/\i=.int .i64 k/\n=.int .i64 (fI f t (l.take k):Nat)/\Below w.heap.size w wr)(fun _ i _=>l.length-(intOf i).toNat);case atStart=>exact⟨0,Nat.zero_le _,rfl,rfl,Below.refl _ _⟩
 case round=>
  obtain⟨k,hk,rfl,rfl,I⟩:=hrel;have j:=aa I;have ad:fI f t (l.take k)<=4096:=Nat.le_trans (zy f t _) (by rw[List.length_take];omega);clear I;by_cases R:k<l.length;·
   obtain⟨b,o,rfl,ac,J⟩:=HR.out (by intro h;simp[h]at R);have C:=(J.get k R).carry ac j.out;have P:=aa (tj f t R);obtain⟨x1,U⟩:∃x1,x1=l[k]:=⟨_,rfl⟩;rw[<-U]at C P;obtain⟨c0,c1,c2,c3⟩:=C;obtain⟨p,hp⟩:∃p,(x1.cE.toList==f.toList)=p:=⟨_,rfl⟩;obtain⟨q,hq⟩:∃q,(x1.to.toList==t.toList)=q:=⟨_,rfl⟩;have HI:Hid (eO f t x1=(p&&q)):=aa (by rw[eO,hp,hq]);obtain⟨c,T⟩:∃c,fI f t (l.take k)=c:=⟨_,rfl⟩;rw[T]at ad P|-;clear U J T;cases p;all_goals cases q
   all_goals
    go_wp2_with fail;go_roundw;case rel=>exact⟨k+1,by omega,by go_num,by rw[P.out,HI.out];first|rfl|go_num,by first|exact j.out|exact j.out.drew⟩
    case measure=>simp[intOf];omega
  ·have af:k=l.length:=by omega
   subst af;go_wp2_with fail;go_ret;exact⟨aY (by rw[ab.out]),j.out⟩
theorem yK{c:Nat}{l:List aF}{f t:ByteArray}(C:fI f t l=c)(v:Value)(w:World)(j:l.length<=4096)(I:bq w w.heap.size v l):Calls Tryz.prog 155 #[v,.string f,.string t] w fun e w'=>e=.returned (.int .i64 (c:Nat))/\Below w.heap.size w w':=by subst C;exact Gp l f t v w j I
theorem sC{q:Bool}{l:List aF}(hq:dX l=q)(v:Value)(w:World)(az:∀m∈l,m.ok)(hv:bq w w.heap.size v l):Calls Tryz.prog 101 #[v] w fun e w'=>e=.returned (.bool q)/\Below w.heap.size w w':=by
 have HQ:=aa hq;have aL:=aa az;have HV:Hid (∀W,Below w.heap.size w W->bq W W.heap.size v l):=aa (fun W hb=>(hv.carry hb).up hb.size);have a3:=hv.ix;obtain⟨ao,cap,rfl,hc,hm,hr⟩:=hv;have HR:=aa hr;clear hr hq az;by_cases aR:36<l.length;·go_enter Tryz.func101,Tryz.ntmps101;go_wp2_with fail;go_ret;exact⟨aC (by rw[<-HQ.out];exact xf aR),Below.refl _ _⟩
 ·go_enter Tryz.func101,Tryz.ntmps101;go_wp2_with fail;go_loopw[3](fun i wr=>∃k:Nat,k<=l.length/\i=.int .i64 k/\(∀j(h:j<l.length),j<k->ig l[j]=true/\fI l[j].cE l[j].to l<=3)/\Below w.heap.size w wr)(fun i _=>l.length-(intOf i).toNat);case atStart=>exact⟨0,Nat.zero_le _,rfl,fun j _ h=>absurd h (by omega),Below.refl _ _⟩
  case round=>
   obtain⟨k,hk,rfl,ad,af⟩:=hrel;have I:=aa af;have R:=aa ad;clear af ad;by_cases aq:k<l.length;·
    obtain⟨b,o,rfl,a0,ah⟩:=HR.out (by intro h;simp[h]at aq);have T:=(ah.get k aq).carry a0 I.out;have J:l[k]∈l:=List.getElem_mem aq;obtain⟨x1,ax⟩:∃x1,x1=l[k]:=⟨_,rfl⟩;have aN:=aa ax;rw[<-ax]at T J;have ab:=aa J;have ac:=aa (aL.out x1 J);obtain⟨c0,c1,c2,c3⟩:=T;obtain⟨p,hp⟩:∃p,ig x1=p:=⟨_,rfl⟩;have HP:=aa hp;obtain⟨c,an⟩:∃c,fI x1.cE x1.to l=c:=⟨_,rfl⟩;have al:=aa an;have a1:c<=36:=by rw[<-an];exact Nat.le_trans (zy _ _ _) (by omega)
    clear ax ah an hp J;cases p;·
     go_wp2_with fail;refine be (by kernel_rfl) (by kernel_rfl) (fun W P=>?_);have av:=bj W;have f0:=au (w:=W) (by rw[P];exact c0);have f1:=au (w:=W) (by rw[P];exact c1);have f2:=au (w:=W) (by rw[P];exact c2);have f3:=au (w:=W) (by rw[P];exact c3);have C:Hid (Below w.heap.size w W):=aa (by rw[P];exact I.out);clear P;repeat(go_big_quiet_step((go_at_call 154;exact bh (Ep (m:=x1) HP.out ac.out _))))
     refine wpQuiet_nil ?_;intro w1 U;have aM:=aa U;clear U av f0 f1 f2 f3;go_wp2_with fail;go_ret;exact⟨aC (by rw[<-HQ.out];exact Aa ab.out HP.out),C.out.trans (aM.out.mono C.out.size)⟩
    ·by_cases h3:3<c;all_goals
      go_wp2_with fail;refine be (by kernel_rfl) (by kernel_rfl) (fun W P=>?_);have av:=bj W;have f0:=au (w:=W) (by rw[P];exact c0);have f1:=au (w:=W) (by rw[P];exact c1);have f2:=au (w:=W) (by rw[P];exact c2);have f3:=au (w:=W) (by rw[P];exact c3);have C:Hid (Below w.heap.size w W):=aa (by rw[P];exact I.out);clear P;repeat(go_big_quiet_step(first|(go_at_call 154;exact bh (Ep (m:=x1) HP.out ac.out _))|(go_at_call 155;exact bh (yK al.out _ _ (by omega) ((HV.out _ (C.out.trans ((Grown.bU _).mono C.out.size))))))))
      refine wpQuiet_nil ?_;intro w1 U;have ay:Hid (Below w.heap.size w w1):=aa (C.out.trans (U.mono C.out.size));clear U av f0 f1 f2 f3;go_wp2_with fail
     ·go_ret;exact⟨aC (by rw[<-HQ.out];exact xe ab.out (by rw[al.out];exact h3)),ay.out⟩
     ·go_roundw;case rel=>
       refine⟨k+1,by omega,by go_num,fun j hj a2=>?_,ay.out⟩;by_cases e:j=k;·subst e;rw[<-aN.out,al.out];exact⟨HP.out,by omega⟩
       ·exact R.out j hj (by omega)
      case measure=>simp[intOf];omega
   ·go_wp2_with fail;go_ret;refine⟨aC ?_,I.out⟩;rw[<-HQ.out];refine Ab (by omega) (fun m hm=>?_) (fun m hm=>?_);·obtain⟨j,hj,rfl⟩:=List.getElem_of_mem hm;exact(R.out j hj (by omega)).1
    ·obtain⟨j,hj,rfl⟩:=List.getElem_of_mem hm;exact(R.out j hj (by omega)).2
section
open Go.RowKit Go.Maps
attribute [local go_sem ↓] Go.wp_at_zero Go.wp_at_succ
def jD(f t:ByteArray):Value:=.agg #[.string f,.string t]
theorem Tryz.wK:laidOutB Tryz.prog=true:=by kernel_rfl
theorem Tryz.zC:(219:TypeId)<Tryz.prog.types.size:=of_decide_eq_true (by kernel_rfl)
theorem Tryz.tq:Tryz.prog.cellsOf 219=2:=by kernel_rfl
theorem Tryz.B5:Tryz.prog.cellsOf 9=1:=by kernel_rfl
theorem Tryz.CW:Tryz.prog.keyType 219=true:=by kernel_rfl
theorem fJ:Keyed Tryz.prog 219:=Keyed.of_law (deep_law_laid Tryz.wK (m:=4) (by omega) Tryz.zC (by kernel_rfl) (by kernel_rfl))
theorem Tryz.Ce:2<Tryz.prog.types.size:=of_decide_eq_true (by kernel_rfl)
theorem Tryz.zg:∃d,Tryz.prog.types.size+1=d+3:=by have h:=Tryz.Ce;generalize Tryz.prog.types.size=n at h;exact⟨n-2,by omega⟩
theorem vX(f t:ByteArray)(l:f.size<=maxLen)(C:t.size<=maxLen):∃I,keyOf Tryz.prog 219 (jD f t)=some I:=by
 obtain⟨d,hd⟩:=Tryz.zg;have j:(jD f t).formed Tryz.prog 219=true:=by simp[Value.formed,jD,Tryz.underlying219,Tryz.tq]
 unfold keyOf;rw[Tryz.underlying219];simp only[];rw[if_pos (by rw[Tryz.CW,j];rfl),hd];simp+decide[Program.keyLits,jD,Value.cells,Tryz.underlying219,Tryz.underlying9,Tryz.tq,Tryz.B5,l,C]
theorem tr{f j t l:ByteArray}(h:jD f t=jD j l):f=j/\t=l:=by simp[jD]at h;exact h
def kZ(w:World)(l:List aF)(b n:Nat):Prop:=∃D:DataW Unit,w.ownsMap Tryz.prog 219 (plainElem Tryz.prog 3) b n D/\∀f t j,keyOf Tryz.prog 219 (jD f t)=some j->D.atKey j (.lit (.int .i64 0))=.lit (.int .i64 (fI f t l:Nat))
theorem Fm(w:World):kZ (w.alloc (.map #[] 0)) [] w.heap.size 0:=⟨.map [],World.ownsMap_made w _ _ _,fun f t l j=>by rfl⟩
theorem kZ.aB{w w':World}{I:List aF}{b n:Nat}{l:List Nat}(h:kZ w I b n)(R:aG w w' l)(T:b∉l):kZ w' I b n:=by obtain⟨D,J,P⟩:=h;refine⟨D,?_,P⟩;obtain⟨j,clock,C,U⟩:=J;exact⟨j,clock,(R.block b (Array.getElem?_eq_some_iff.1 C).1 T).trans C,U⟩
theorem Fo{w w':World}{l:List aF}{m:aF}{b n:Nat}{D:DataW Unit}{J:Lit}(R:w.ownsMap Tryz.prog 219 (plainElem Tryz.prog 3) b n D)(hD:∀f t J,keyOf Tryz.prog 219 (jD f t)=some J->D.atKey J (.lit (.int .i64 0))=.lit (.int .i64 (fI f t l:Nat)))(j:keyOf Tryz.prog 219 (jD m.cE m.to)=some J)(I:w'.ownsMap Tryz.prog 219 (plainElem Tryz.prog 3) b (n+1) (D.put J (.lit (.int .i64 ((fI m.cE m.to l:Nat)+1))))):kZ w' (l++[m]) b (n+1):=by
 refine⟨_,I,fun f t k' C=>?_⟩;have P:=R.isMap;have U:=fJ.key j;by_cases T:k'=J;·subst T;obtain⟨rfl,rfl⟩:=tr (fJ.inj C j);rw[atKey_put_same P U,nO,qY,mW];simp
 ·rw[atKey_put_other T,hD f t k' C,nO,qY];have:eO f t m=false:=by
   cases h:eO f t m;·rfl
   ·obtain⟨rfl,rfl⟩:=lT.1 h;rw[C]at j;exact absurd (Option.some.inj j) T
  rw[this];simp
theorem ui(w:World):(zeroValue 3).run Tryz.prog w=.ok (.int .i64 0) w:=Tryz.zeroValue3 w
theorem AX{w:World}{l:List aF}{b n:Nat}{f t:ByteArray}(h:kZ w l b n)(R:f.size<=maxLen)(T:t.size<=maxLen):(Instr.lookup 217 (.map (some b)) (jD f t) false).run Tryz.prog w=.ok (.int .i64 (fI f t l:Nat)) w:=by obtain⟨D,J,P⟩:=h;obtain⟨U,C⟩:=vX f t R T;obtain⟨c,I,j,-⟩:=J.lookup_int fJ Tryz.underlying217 Tryz.underlying3 (ui w) C;rw[P f t U C]at j;injection j with j;injection j with _ j;rw[j];exact I
theorem jZ{w:World}{l:List aF}{b n:Nat}{f t:ByteArray}(h:kZ w l b n)(I:f.size<=maxLen)(J:t.size<=maxLen){c:Nat}(C:fI f t l=c):(Instr.lookup 217 (.map (some b)) (.agg #[.string f,.string t]) false).run Tryz.prog w=.ok (.int .i64 (c:Nat)) w:=by subst C;have j:=AX h I J;unfold jD at j;exact j
theorem Tryz.Dk:(Tryz.prog.info? 219).map (fun i=>(i.zero,i.size,i.bytes))=some (some (.agg #[.string ByteArray.empty,.string ByteArray.empty]),2,32):=by kernel_rfl
theorem qE(m:aF)(w:World):Calls Tryz.prog 165 #[m.val] w fun e w'=>e=.returned (.agg #[.string m.cE,.string m.to])/\Below w.heap.size w w':=by
 have hi:(Tryz.prog.info? 219).map (·.size)=some 2:=by obtain⟨C,hi,_,j,_⟩:=info_parts Tryz.Dk;rw[hi];simp[j]
 have l:=aa hi;clear hi;unfold aF.val;go_enter Tryz.func165,Tryz.ntmps165;go_wp2_with fail;refine bodyPost_ret_by (results_cell_row rfl _ _ (w.heap.size+1) 219 #[.string m.cE,.string m.to] (0,0) _ rfl ?_ Tryz.underlying219 rfl l.out) rfl ⟨rfl,(ae _ _).trans ((ae _ _).mono (by simp))⟩;rw[b6 _ _ _ (by simp)]
theorem aG.Hf{w w':World}{l:List Nat}(h:aG w w' []):aG w w' l:=⟨h.os,h.tape,h.output,h.size,fun b j _=>h.block b j (by simp)⟩
theorem aG.Jv{w w':World}{b:Nat}(h:aG w w' ([b]++[b])):aG w w' [b]:=⟨h.os,h.tape,h.output,h.size,fun k l j=>h.block k l (by simp at j;simp[j])⟩
theorem aG.Jb{w w':World}{l:List Nat}(h:aG w w' l){b o:Nat}{x:Value}(j:w.cell? ⟨b,o,none⟩=some x)(C:b∉l):w'.cell? ⟨b,o,none⟩=some x:=(World.cell?_of_block (a:=⟨b,o,none⟩) (h.block b (World.block_lt_of_cell? w _ j) C)).trans j
end
section
open Go.RowKit Go.Maps Go.ChangeMaps Go.MapKept
open Go.WideElems (Fit entry_then_store)
theorem CX:Go.WideMaps.KeyLaw Tryz.prog 219:=deep_law_laid Tryz.wK (m:=4) (by omega) Tryz.zC (by kernel_rfl) (by kernel_rfl)
theorem CM{w:World}{l:List aF}{b n c:Nat}{m:aF}(h:kZ w l b n)(P:m.ok)(hn:n<1000)(hc:fI m.cE m.to l=c)(a9:c<=3):∃v0 st W4 W5,(Instr.mapEntry 217 (.map (some b)) (.agg #[.string m.cE,.string m.to])).run Tryz.prog w=.ok (.tuple #[v0,st]) W4/\(Instr.lookup 217 (.map (some b)) (.agg #[.string m.cE,.string m.to]) false).run Tryz.prog W4=.ok (.int .i64 (c:Nat)) W4/\(Instr.entryStore 217 (.map (some b)) st (.int .i64 (IntKind.i64.wrap ((c:Int)+1)))).run Tryz.prog W4=.ok () W5/\kZ W5 (l++[m]) b (n+1)/\aG w W5 [b]:=by
 have a5:IntKind.i64.wrap ((c:Int)+1)=(c:Int)+1:=by rw[IntKind.wrap_i64];omega
 rw[a5];have a1:=jZ h P.1 P.2.1 hc;obtain⟨kl,C⟩:=vX m.cE m.to P.1 P.2.1;unfold jD at C;obtain⟨D,ah,hD⟩:=h;have J:=ah;obtain⟨es,clock,hb,F,hs,rfl⟩:=ah;obtain⟨v0,st,an,U,R,bb,ax⟩:=entry_then_store CX Tryz.underlying217 ui hb F C;have af:(setBlock w b (.map an U)).heap[b]?=some (.map an U):=heap_setBlock_same hb _;obtain⟨az,ac,a3,a4⟩:=ax _ (.int .i64 ((c:Int)+1)) af;refine⟨v0,_,_,_,R,?_,a3,?_,?_⟩;·
  obtain⟨a8,ay,bf,a7⟩:=ax _ (.int .i64 0) af;have ab:Keyed Tryz.prog 219:=fJ;rcases ab.find w C es.toList F.keys with⟨h1,h2⟩|⟨j,e0,h1,h2,h3⟩;·
   have r1:(Instr.mapEntry 217 (.map (some b)) (.agg #[.string m.cE,.string m.to])).run Tryz.prog w=.ok (.tuple #[.int .i64 0,goInt clock]) (setBlock w b (.map (es.push ⟨.agg #[.string m.cE,.string m.to],.int .i64 0,clock⟩) (clock+1))):=by simp[Instr.mapEntry,run_underlying Tryz.underlying217,MapKept.run_getObj_map hb,ab.check w false C,h1,MapKept.run_setObj_map _ hb,Result.andThen,setBlock]
   have r2:(Instr.mapUpdate 217 (.map (some b)) (.agg #[.string m.cE,.string m.to]) (.int .i64 0)).run Tryz.prog w=.ok () (setBlock w b (.map (es.push ⟨.agg #[.string m.cE,.string m.to],.int .i64 0,clock⟩) (clock+1))):=by simp[Instr.mapUpdate,run_underlying Tryz.underlying217,MapKept.run_getObj_map hb,ab.check w false C,h1,MapKept.run_setObj_map _ hb,Result.andThen,setBlock]
   have r3:(Instr.lookup 217 (.map (some b)) (.agg #[.string m.cE,.string m.to]) false).run Tryz.prog w=.ok (.int .i64 0) w:=by simp[Instr.lookup,run_underlying Tryz.underlying217,MapKept.run_getObj_map hb,ab.check w es.isEmpty C,h1,Result.andThen]
   have a6:=Result.ok.inj (a1.symm.trans r3);have r3:=(Value.int.inj a6.1).2;have R:=(Result.ok.inj (r1.symm.trans R)).2;obtain⟨w',I,T,aR⟩:=J.update fJ Tryz.underlying217 (by unfold maxLen;omega) C (plainElem_int (H:=Unit) Tryz.underlying3 (a:=0) (by decide));have I:=(Result.ok.inj (r2.symm.trans I)).2;rw[R]at I;rw[I];refine jZ (l:=l) (n:=n+1) ⟨_,T,fun f t k' aq=>?_⟩ P.1 P.2.1 hc;by_cases he:k'=kl;·subst he;obtain⟨rfl,rfl⟩:=tr (fJ.inj aq (by unfold jD;exact C));rw[atKey_put_same J.isMap (fJ.key C),hc,r3]
   ·rw[atKey_put_other he];exact hD f t k' aq
  ·have hj:es[j]?=some e0:=by simpa using h2
   have al:es.modify j (fun e=>{e with key:=.agg #[.string m.cE,.string m.to]})=es:=by
    apply Array.ext';rw[Array.toList_modify];apply List.ext_getElem?;intro i;rw[List.getElem?_modify];by_cases hi:j=i;·subst hi;rw[h2];simp[<-h3]
    ·simp[hi]
   have r1:(Instr.mapEntry 217 (.map (some b)) (.agg #[.string m.cE,.string m.to])).run Tryz.prog w=.ok (.tuple #[e0.val,goInt e0.born]) (setBlock w b (.map es clock)):=by simp[Instr.mapEntry,run_underlying Tryz.underlying217,MapKept.run_getObj_map hb,ab.check w false C,h1,hj,h3,ab.stays w C,al,MapKept.run_setObj_map _ hb,Result.andThen,setBlock]
   have R:=(Result.ok.inj (r1.symm.trans R)).2;rw[<-R];exact jZ (l:=l) (n:=n) ⟨_,⟨es,clock,heap_setBlock_same hb _,F,hs,rfl⟩,hD⟩ P.1 P.2.1 hc
 ·obtain⟨w',I,T,aR⟩:=J.update fJ Tryz.underlying217 (by unfold maxLen;omega) C (plainElem_int (H:=Unit) Tryz.underlying3 (a:=(c:Int)+1) (by simp[Lit.wf,IntKind.min,IntKind.max,IntKind.signed,IntKind.bits];omega));have I:=(Result.ok.inj (a4.symm.trans I)).2;have aN:w'.heap[b]?=some (.map az ac):=by rw[<-I];exact heap_setBlock_same hb _
  have:kZ w' (l++[m]) b (n+1):=Fo J hD C (by rw[hc];exact T);obtain⟨D2,⟨aL,ad,ao,F3,a2,rfl⟩,aM⟩:=this;rw[aN]at ao;refine⟨_,⟨aL,ad,?_,F3,a2,rfl⟩,aM⟩;rw[<-ao];exact heap_setBlock_same af _
 ·refine⟨rfl,rfl,rfl,by simp[setBlock],fun k hk a0=>?_⟩;have av:k≠b:=by simpa using a0
  rw[heap_setBlock_other af _ av,heap_setBlock_other hb _ av]
end
section
open Go.RowKit Go.Maps
attribute [local go_sem ↓] Go.wp_at_zero Go.wp_at_succ
theorem mx{q:Bool}{l:List aF}(hq:dX l=q)(v:Value)(w:World)(a6:∀m∈l,m.ok)(hv:bq w w.heap.size v l):Calls Tryz.prog 112 #[v] w fun e w'=>e=.returned (.bool q)/\Below w.heap.size w w':=by
 have HQ:=aa hq;have bf:=aa a6;have bB:=hv.ix;obtain⟨ao,cap,rfl,hc,hm,hr⟩:=hv;have HR:=aa hr;clear hr hq a6;by_cases bk:36<l.length;·go_enter Tryz.func112,Tryz.ntmps112;go_wp2_with fail;go_ret;exact⟨aC (by rw[<-HQ.out];exact xf bk),Below.refl _ _⟩
 ·have br:∀W:World,(Instr.makeMap 217 none).run Tryz.prog W=.ok (.map (some W.heap.size)) (W.alloc (.map #[] 0)):=fun W=>rfl;go_enter Tryz.func112,Tryz.ntmps112;go_wp2_with fail;obtain⟨W1,ah⟩:∃W1,W1=w.alloc (.map #[] 0):=⟨_,rfl⟩;have bs:W1.heap.size=w.heap.size+1:=by rw[ah];simp
  have a9:Hid (kZ W1 [] w.heap.size 0):=aa (by rw[ah];exact Fm w);have a8:Hid (Below w.heap.size w W1):=aa (by rw[ah];exact ae _ _);rw[<-ah];clear ah br;go_loopw[12](fun i wr=>∃k:Nat,k<=l.length/\i=.int .i64 k/\kZ wr (l.take k) w.heap.size k/\(∀j(h:j<l.length),j<k->ig l[j]=true)/\(∀f t,fI f t (l.take k)<=3)/\aG W1 wr [w.heap.size])(fun i _=>l.length-(intOf i).toNat);case atStart=>exact⟨0,Nat.zero_le _,rfl,a9.out,fun j _ h=>absurd h (by omega),fun f t=>by simp[fI],(aG.refl W1).Hf⟩
  case round=>
   obtain⟨k,hk,rfl,aM,aL,ac,R⟩:=hrel;have U:=aa aM;have ax:=aa aL;have H3:=aa ac;have a7:=aa R;have bM:w.heap.size+1<=wr.heap.size:=by have:=R.size;omega
   have HW:Hid (Below w.heap.size w wr):=aa (a8.out.trans (R.below (by omega) (by simp)));clear aM aL ac R;by_cases aq:k<l.length;·
    obtain⟨b,o,rfl,bl,aN⟩:=HR.out (by intro h;simp[h]at aq);have av:=(aN.get k aq).carry bl HW.out;have ab:l[k]∈l:=List.getElem_mem aq;have aR:Hid (∀f t,fI f t (l.take (k+1))=fI f t (l.take k)+if eO f t l[k]then 1 else 0):=aa (fun f t=>tj f t aq);have a3:Hid (l.take (k+1)=l.take k++[l[k]]):=aa (List.take_succ_eq_append_getElem aq);obtain⟨P,a1⟩:∃P,P=l[k]:=⟨_,rfl⟩;have bi:=aa a1;rw[<-a1]at av ab aR a3;have az:=aa ab;have C:=aa (bf.out P ab);obtain⟨c0,c1,c2,c3⟩:=av;obtain⟨p,hp⟩:∃p,ig P=p:=⟨_,rfl⟩;have HP:=aa hp;obtain⟨c,a0⟩:∃c,fI P.cE P.to (l.take k)=c:=⟨_,rfl⟩;have ad:=aa a0;have bm:c<=3:=by rw[<-a0];exact H3.out _ _
    clear a1 aN a0 hp ab;cases p;·go_wp2_with(go_at_call 164;refine(wD (m:=P) HP.out C.out _).mono ?_;rintro e w1⟨rfl,I⟩;have J:Hid (Below wr.heap.size wr w1):=aa ((ae _ _).trans (I.mono (by simp)));clear I);go_ret;exact⟨aC (by rw[<-HQ.out];exact Aa az.out HP.out),HW.out.trans (J.out.mono (by omega))⟩
    ·by_cases h3:c=3;all_goals go_wp2_with(first|(go_at_call 164;refine(wD (m:=P) HP.out C.out _).mono ?_;rintro e w1⟨rfl,I⟩;have ay:Hid (Below wr.heap.size wr w1):=aa ((ae _ _).trans (I.mono (by simp)));have d0:=(I.cell (p:=⟨wr.heap.size,0,none⟩) (by simp));have d1:=(I.cell (p:=⟨wr.heap.size,1,none⟩) (by simp));have d2:=(I.cell (p:=⟨wr.heap.size,2,none⟩) (by simp));have d3:=(I.cell (p:=⟨wr.heap.size,3,none⟩) (by simp));simp at d0 d1 d2 d3;have an:wr.heap.size<w1.heap.size:=(by have:=I.size;simp at this;omega);clear I)|(go_at_call 165;refine(qE P w1).mono ?_;rintro e w2⟨rfl,T⟩;have J:Hid (Below wr.heap.size wr w2):=aa (ay.out.trans (T.mono ay.out.size));have e0:=(T.cell (p:=⟨wr.heap.size,0,none⟩) an).trans d0;have e1:=(T.cell (p:=⟨wr.heap.size,1,none⟩) an).trans d1;have e2:=(T.cell (p:=⟨wr.heap.size,2,none⟩) an).trans d2;have e3:=(T.cell (p:=⟨wr.heap.size,3,none⟩) an).trans d3;have bp:=jZ (U.out.aB (aj J.out) (by simp)) C.out.1 C.out.2.1 ad.out;have bx:wr.heap.size<w2.heap.size:=Nat.lt_of_lt_of_le an T.size;clear T)|(go_at_call 165;refine(qE P w2).mono ?_;rintro e w3⟨rfl,al⟩;have af:Hid (Below wr.heap.size wr w3):=aa (J.out.trans (al.mono J.out.size));have a5:=jZ (U.out.aB (aj af.out) (by simp)) C.out.1 C.out.2.1 ad.out;clear al))
     ·go_ret;exact⟨aC (by rw[<-HQ.out];exact xe az.out (by have h1:=aR.out P.cE P.to;have h2:=AW P.cE P.to l (k+1);rw[mW,ad.out]at h1;simp at h1;omega)),HW.out.trans (J.out.mono (by omega))⟩
     ·clear d0 d1 d2 d3 bp;go_region_with(go_at_call 165;refine(qE P _).mono ?_;rintro e w3⟨rfl,al⟩;have af:Hid (Below wr.heap.size wr w3):=aa (J.out.drew.trans (al.mono J.out.size));have a5:=jZ (U.out.aB (aj af.out) (by simp)) C.out.1 C.out.2.1 ad.out;obtain⟨v0,st,W4,W5,bL,bz,bN,a4,R⟩:=CM (U.out.aB (aj af.out) (by simp)) C.out (by omega) ad.out bm;have bb:=aa a4;have a2:=aa R;clear al a4 R);all_goals
       go_wp2_with fail;go_roundw;case rel=>
        refine⟨k+1,by omega,by go_num,by rw[a3.out];exact bb.out,fun j hj bv=>?_,fun f t=>?_,?_⟩;·
         by_cases e:j=k;·subst e;rw[<-bi.out];exact HP.out
         ·exact ax.out j hj (by omega)
        ·have h1:=aR.out f t;have h2:=H3.out f t;by_cases e:eO f t P=true;·obtain⟨rfl,rfl⟩:=lT.1 e;rw[mW,ad.out]at h1;simp at h1;omega
         ·rw[if_neg e]at h1;omega
        ·exact((a7.out.then af.out).trans a2.out).Jv
       case measure=>simp[intOf];omega
   ·have bn:k=l.length:=by omega
    subst bn;go_wp2_with fail;go_ret;refine⟨aC ?_,HW.out⟩;rw[<-HQ.out];have h3:=H3.out;rw[List.take_length]at h3;refine Ab (by omega) (fun m hm=>?_) (fun m _=>h3 _ _);obtain⟨j,hj,rfl⟩:=List.getElem_of_mem hm;exact ax.out j hj hj
end
section
attribute [local go_sem ↓] Go.wp_at_zero Go.wp_at_succ
def ei(l:List aF)(o:Bool):xS:=if 400<l.length then .wrapped else if o&&dX l then .normal else .report
theorem j8{E:jU}{y:xS}{l:List aF}{o:Bool}(U:ei l o=y)(v:Value)(w:World)(C:∀m∈l,m.ok)(T:bq w w.heap.size v l)(I:dS w E):Calls Tryz.prog 223 #[v,.bool o] w fun e w'=>e=.returned (iN E y)/\Below w.heap.size w w':=by
 have P:=aa C;have HV:=aa T;have HS:=aa I;have ad:=T.ix;obtain⟨ao,cap,rfl,hc,hm,hr⟩:=T;obtain⟨q,R⟩:∃q,dX l=q:=⟨_,rfl⟩;have HQ:=aa R;have ab:=I.gL;have ac:=I.gR;clear hr C I;by_cases h4:400<l.length;·
  obtain rfl:y=.wrapped:=by rw[<-U,ei,if_pos h4]
  go_enter Tryz.func223,Tryz.ntmps223;go_wp2_with fail;go_ret;exact⟨rfl,Below.refl _ _⟩
 ·have HY:Hid (y=if o&&q then .normal else .report):=aa (by rw[<-U,ei,if_neg h4,R]);clear U R;cases o;·go_enter Tryz.func223,Tryz.ntmps223;go_wp2_with fail;go_ret;exact⟨by rw[HY.out];rfl,Below.refl _ _⟩
  ·cases q;all_goals go_enter Tryz.func223,Tryz.ntmps223;go_wp2_with(go_at_call 112;refine(mx HQ.out _ _ P.out HV.out).mono ?_;rintro e w1⟨rfl,j⟩;have J:=aa j;have kR:=(HS.out.carry j).gR;clear j);go_ret;exact⟨by rw[HY.out];rfl,J.out⟩
theorem EU{E:jU}(y:xS)(hy:y≠.normal)(w:World)(j:dS w E):Calls Tryz.prog 255 #[iN E y] w fun e w'=>e=.returned (.int .i64 y.code)/\w'=w:=by
 have HS:=aa j;have af:=j.gL;have al:=j.gN;have ah:=j.gM;obtain⟨cN,tN,J⟩:=j.bN;obtain⟨cL,tL,C⟩:=j.bL;obtain⟨cR,tR,P⟩:=j.bR;obtain⟨cM,tM,I⟩:=j.bM;have U:=aa (kb E.aN E.aL _ _ _ _ w j.nL J C);have ab:=aa (kb E.aR E.aL _ _ _ _ w (Ne.symm j.lR) P C);have ad:=aa (kb E.aR E.aN _ _ _ _ w (Ne.symm j.nR) P J);have ac:=aa (kb E.aR E.aM _ _ _ _ w j.rM P I);have R:=aa (kb E.aM E.aL _ _ _ _ w (Ne.symm j.lM) I C);have T:=aa (kb E.aM E.aN _ _ _ _ w (Ne.symm j.nM) I J);clear J C P I j HS;obtain⟨aN,l,aR,aM⟩:=E;simp only[]at*;cases y;·exact absurd rfl hy
 ·unfold iN;go_enter Tryz.func255,Tryz.ntmps255;go_wp2_with(first|(go_at_call_of 289 l;refine U.out.mono ?_;rintro e w'⟨rfl,rfl⟩)|(go_at_call 289;refine(uH aN _).mono ?_;rintro e w'⟨rfl,rfl⟩));go_ret;exact⟨rfl,rfl⟩
 ·unfold iN;go_enter Tryz.func255,Tryz.ntmps255;go_wp2_with(go_at_call 289;refine(uH l _).mono ?_;rintro e w'⟨rfl,rfl⟩);go_ret;exact⟨rfl,rfl⟩
 ·unfold iN;go_enter Tryz.func255,Tryz.ntmps255;go_wp2_with(first|(go_at_call_of 289 l;refine ab.out.mono ?_;rintro e w'⟨rfl,rfl⟩)|(go_at_call_of 289 aN;refine ad.out.mono ?_;rintro e w'⟨rfl,rfl⟩)|(go_at_call_of 289 aM;refine ac.out.mono ?_;rintro e w'⟨rfl,rfl⟩));go_ret;exact⟨rfl,rfl⟩
 ·unfold iN;go_enter Tryz.func255,Tryz.ntmps255;go_wp2_with(first|(go_at_call_of 289 l;refine R.out.mono ?_;rintro e w'⟨rfl,rfl⟩)|(go_at_call_of 289 aN;refine T.out.mono ?_;rintro e w'⟨rfl,rfl⟩)|(go_at_call 289;refine(uH aM _).mono ?_;rintro e w'⟨rfl,rfl⟩));go_ret;exact⟨rfl,rfl⟩
end
