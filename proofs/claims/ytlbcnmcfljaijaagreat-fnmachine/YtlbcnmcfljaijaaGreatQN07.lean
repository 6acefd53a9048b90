import Derived.Test.YtlbcnmcfljaijaaGreatQN00
import Derived.Laws.DeepNot64
namespace Go.Proofs.YtlbcnmcfljaijaaGreat
open Go.RowKit
set_option linter.unusedSimpArgs false
set_option linter.unusedVariables false
set_option maxHeartbeats 4000000
set_option maxRecDepth 100000
theorem og(s:ByteArray)(a:Int)(w:World)(j:s.size≤maxLen):Calls Tryz.prog 149 #[.string s,.int .i64 a] w fun e w'=>e=.returned (.int .i64 (if 8000<s.size then 2 else if a<0 then 1 else 0))∧w'=w:=by
 unfold maxLen at j;by_cases h:8000<s.size;·go_enter Tryz.func149,Tryz.ntmps149;go_wp2;go_ret;exact⟨rfl,rfl⟩
 ·by_cases l:a<0;·go_enter Tryz.func149,Tryz.ntmps149;go_wp2;go_ret;exact⟨rfl,rfl⟩
  ·go_enter Tryz.func149,Tryz.ntmps149;go_wp2;go_ret;exact⟨rfl,rfl⟩
theorem nz{n:Int}(j:0≤n)(l:n≤9223372036854775807):wrap64 n=n:=by unfold wrap64;omega
theorem tH(u:Nat)(w:World)(hu:i7 u):Calls Tryz.prog 150 #[.int .u64 (u:Int)] w fun e w'=>e=.returned (.int .i64 (cO u))∧w'=w:=by
 have C:bits .and .u64 (u:Int) 1=((u%2:Nat):Int):=by rw[show(1:Int)=((1:Nat):Int)from rfl,bits_and_u64_nat u 1 hu.lt (by decide),Nat.and_one_is_mod]
 have j:=hu.lt;by_cases h:u%2=1;·
  have g:(((u%2:Nat):Int)==1)=true:=by rw[h];rfl
  have l:Hid (cO u=bits .xor .i64 (-1) (wrap64 ((u:Int)/2))):=by show _=_;rw[show(u:Int)/2=((u/2:Nat):Int)from by omega,nz (by omega) (by omega),i64_not _ (by omega),cO,if_pos h];omega
  clear j;go_enter Tryz.func150,Tryz.ntmps150;go_wp2;go_ret;exact⟨aU l.out,rfl⟩
 ·have g:(((u%2:Nat):Int)==1)=false:=by rw[show u%2=0 by omega];rfl
  have l:Hid (cO u=wrap64 ((u:Int)/2)):=by show _=_;rw[show(u:Int)/2=((u/2:Nat):Int)from by omega,nz (by omega) (by omega),cO,if_neg h]
  clear j;go_enter Tryz.func150,Tryz.ntmps150;go_wp2;go_ret;exact⟨aU l.out,rfl⟩
theorem IH(b:Nat)(j:b<256):bits .and .u8 (b:Int) 127=((b%128:Nat):Int):=by
 have key:(BitVec.ofInt 8 (b:Int)&&&BitVec.ofInt 8 127).toNat=b%128:=by rw[BitVec.toNat_and,BitVec.toNat_ofInt,show(BitVec.ofInt 8 127).toNat=2^7-1 from by decide,Nat.and_two_pow_sub_one_eq_mod];omega
 show IntKind.u8.wrap ((BitVec.ofInt 8 (b:Int)&&&BitVec.ofInt 8 127).toNat:Nat)=_;rw[key];simp[IntKind.wrap,IntKind.bits,IntKind.signed];omega
theorem vi{s:ByteArray}{A k:Nat}(C:k≤9)(l:A+k<s.size)(j:¬(k=9∧1<iP s (A+k))):bits .or .u64 (jk s A k:Int) (IntKind.u64.wrap (IntKind.u64.wrap (bits .and .u8 (s[A+k].toNat:Int) 127)*2^(7*k)))=(jk s A (k+1):Int):=by
 have hu:=lF (s:=s) (a:=A) C j;have I:=hu.lt;rw[jk]at I;have e1:IntKind.u64.wrap (bits .and .u8 (s[A+k].toNat:Int) 127)=((iP s (A+k)%128:Nat):Int):=by rw[IH _ (UInt8.toNat_lt _),IntKind.wrap_u64,nC l];omega
 have e2:((iP s (A+k)%128:Nat):Int)*2^(7*k)=((iP s (A+k)%128*128^k:Nat):Int):=by rw[←Jj,Int.natCast_mul,Int.natCast_pow];rfl
 rw[e1,e2,IntKind.wrap_u64,Int.emod_eq_of_lt (by omega) (by omega),Ex (qj s A k) (by rw[jk]at hu;exact hu)];rfl
theorem C8{s:ByteArray}{A:Nat}(l:A+9<s.size)(j:¬1<iP s (A+9)):bits .or .u64 (jk s A 9:Int) (IntKind.u64.wrap (IntKind.u64.wrap (bits .and .u8 (s[A+9].toNat:Int) 127)*9223372036854775808))=(jk s A (9+1):Int):=by have:=vi (s:=s) (A:=A) (k:=9) (by omega) l (fun x=>j x.2);rwa[show(2:Int)^(7*9)=9223372036854775808 from by decide]at this
theorem wu{s:ByteArray}{A:Nat}(j:A<s.size):bits .or .u64 0 (IntKind.u64.wrap (IntKind.u64.wrap (bits .and .u8 (s[A].toNat:Int) 127)))=(jk s A (0+1):Int):=by have:=vi (s:=s) (A:=A) (k:=0) (by omega) j (by omega);simpa[jk]using this
def iE(c:Int):Value:=if c=0 then .nilIface else .iface 156 (.agg #[.int .i64 c])
def Aa(s:ByteArray)(A:Nat)(w:World)(l:Nat)(a':Act)(w':World):Prop:=w'=w∧((l=1∧∃(k:Nat)(z:Int)(j C I J P u16 R T U ab ac ad af ag ah ao av ax ay az a0 u32 a1 a2 a3 a4 a5 a8 a9 ba bb be bf bg bi bk bm bn bp br bs bv bx:Value),1≤k∧k≤9∧a'={tmps:=#[.string s,.int .i64 ((A:Int)+(k:Int)),undef,undef,.int .i64 0,.int .i64 0,.nilIface,.int .u64 (jk s A k:Int),.int .u8 z,.int .i64 ((7*k:Nat):Int),.int .i64 0,j,C,I,J,P,u16,R,T,U,ab,ac,ad,af,ag,ah,ao,av,ax,ay,az,a0,u32,a1,a2,a3,a4,a5,a8,a9,ba,bb,be,bf,bg,bi,bk,bm,bn,bp,br,bs,bv,bx],defers:=[]}∧aY s (A:Int)=fw s A (10-k) k)∨(l=2∧∃(k:Nat)(j C I J P u16 R T U ab ac ad af ag ah ao av ax ay az a0 u32 a1 a2 a3 a4 a5 a8 a9 ba bb be bf bg bi bk bm bn bp br bs bv bx:Value),k≤9∧a'={tmps:=#[.string s,.int .i64 ((A:Int)+(k:Int)+1),undef,undef,.int .i64 0,.int .i64 0,.nilIface,.int .u64 (jk s A (k+1):Int),.int .u8 (iP s (A+k):Int),.int .i64 ((7*k:Nat):Int),.int .i64 0,j,C,I,J,P,u16,R,T,U,ab,ac,ad,af,ag,ah,ao,av,ax,ay,az,a0,u32,a1,a2,a3,a4,a5,a8,a9,ba,bb,be,bf,bg,bi,bk,bm,bn,bp,br,bs,bv,bx],defers:=[]}∧i7 (jk s A (k+1))∧aY s (A:Int)=if iP s (A+k)=0∧0<k then(0,0,3)else(cO (jk s A (k+1)),(A:Int)+(k:Int)+1,0))∨(l=0∧∃(c x y z t:Int)(j C I J P u16 R T U ab ac ad af ag ah ao av ax ay az a0 u32 a1 a2 a3 a4 a5 a8 a9 ba bb be bf bg bi bk bm bn bp br bs bv bx:Value),(c=1∨c=2∨c=3∨c=4)∧a'={tmps:=#[.string s,.int .i64 x,undef,undef,.int .i64 0,.int .i64 0,.nilIface,.int .u64 y,.int .u8 z,.int .i64 t,.int .i64 c,j,C,I,J,P,u16,R,T,U,ab,ac,ad,af,ag,ah,ao,av,ax,ay,az,a0,u32,a1,a2,a3,a4,a5,a8,a9,ba,bb,be,bf,bg,bi,bk,bm,bn,bp,br,bs,bv,bx],defers:=[]}∧aY s (A:Int)=(0,0,c)))
theorem jY{s:ByteArray}{A:Nat}{w:World}{c x y z t:Int}{j l C I J P R T U ab ac ad af ag ah ao av ax ay az a0 a1 a2 a3 a4 a5 a8 a9 ba bb be bf bg bi bk bm bn bp br bs bv bx bz:Value}(hc:c=1∨c=2∨c=3∨c=4)(hN:aY s (A:Int)=(0,0,c)):Aa s A w 0 {tmps:=#[.string s,.int .i64 x,undef,undef,.int .i64 0,.int .i64 0,.nilIface,.int .u64 y,.int .u8 z,.int .i64 t,.int .i64 c,j,l,C,I,J,P,R,T,U,ab,ac,ad,af,ag,ah,ao,av,ax,ay,az,a0,a1,a2,a3,a4,a5,a8,a9,ba,bb,be,bf,bg,bi,bk,bm,bn,bp,br,bs,bv,bx,bz],defers:=[]} w:=⟨rfl,.inr (.inr ⟨rfl,c,x,y,z,t,j,l,C,I,J,P,R,T,U,ab,ac,ad,af,ag,ah,ao,av,ax,ay,az,a0,a1,a2,a3,a4,a5,a8,a9,ba,bb,be,bf,bg,bi,bk,bm,bn,bp,br,bs,bv,bx,bz,hc,rfl,hN⟩)⟩
theorem tr{s:ByteArray}{A:Nat}{w:World}{x y z t:Int}{j l C I J P R T U ab ac ad af ag ah ao av ax ay az a0 a1 a2 a3 a4 a5 a8 a9 ba bb be bf bg bi bk bm bn bp br bs bv bx bz:Value}(k:Nat)(h1:1≤k)(hk:k≤9)(hx:x=(A:Int)+(k:Int))(hy:y=(jk s A k:Int))(ht:t=((7*k:Nat):Int))(hN:aY s (A:Int)=fw s A (10-k) k):Aa s A w 1 {tmps:=#[.string s,.int .i64 x,undef,undef,.int .i64 0,.int .i64 0,.nilIface,.int .u64 y,.int .u8 z,.int .i64 t,.int .i64 0,j,l,C,I,J,P,R,T,U,ab,ac,ad,af,ag,ah,ao,av,ax,ay,az,a0,a1,a2,a3,a4,a5,a8,a9,ba,bb,be,bf,bg,bi,bk,bm,bn,bp,br,bs,bv,bx,bz],defers:=[]} w:=by subst hx;subst hy;subst ht;exact⟨rfl,.inl ⟨rfl,k,z,j,l,C,I,J,P,R,T,U,ab,ac,ad,af,ag,ah,ao,av,ax,ay,az,a0,a1,a2,a3,a4,a5,a8,a9,ba,bb,be,bf,bg,bi,bk,bm,bn,bp,br,bs,bv,bx,bz,h1,hk,rfl,hN⟩⟩
theorem ou{s:ByteArray}{A:Nat}{w:World}{x y z t:Int}{j l C I J P R T U ab ac ad af ag ah ao av ax ay az a0 a1 a2 a3 a4 a5 a8 a9 ba bb be bf bg bi bk bm bn bp br bs bv bx bz:Value}(k:Nat)(hk:k≤9)(hx:x=(A:Int)+(k:Int)+1)(hy:y=(jk s A (k+1):Int))(hz:z=(iP s (A+k):Int))(ht:t=((7*k:Nat):Int))(hu:i7 (jk s A (k+1)))(hN:aY s (A:Int)=if iP s (A+k)=0∧0<k then(0,0,3)else(cO (jk s A (k+1)),(A:Int)+(k:Int)+1,0)):Aa s A w 2 {tmps:=#[.string s,.int .i64 x,undef,undef,.int .i64 0,.int .i64 0,.nilIface,.int .u64 y,.int .u8 z,.int .i64 t,.int .i64 0,j,l,C,I,J,P,R,T,U,ab,ac,ad,af,ag,ah,ao,av,ax,ay,az,a0,a1,a2,a3,a4,a5,a8,a9,ba,bb,be,bf,bg,bi,bk,bm,bn,bp,br,bs,bv,bx,bz],defers:=[]} w:=by subst hx;subst hy;subst hz;subst ht;exact⟨rfl,.inr (.inl ⟨rfl,k,j,l,C,I,J,P,R,T,U,ab,ac,ad,af,ag,ah,ao,av,ax,ay,az,a0,a1,a2,a3,a4,a5,a8,a9,ba,bb,be,bf,bg,bi,bk,bm,bn,bp,br,bs,bv,bx,bz,hk,rfl,hu,hN⟩)⟩
theorem BU{s:ByteArray}{A k:Nat}{r:Int×Int×Int}(j:iP s (A+k)=0∧0<k)(h:aY s (A:Int)=if iP s (A+k)=0∧0<k then(0,0,3)else r):aY s (A:Int)=(0,0,3):=by rw[h,if_pos j]
theorem yd(s:ByteArray)(A:Nat)(w:World)(hs:s.size≤8000)(hA:(A:Int)≤9223372036854775807):Calls Tryz.prog 117 #[.string s,.int .i64 (A:Int)] w fun e w'=>e=.returned (.tuple #[.int .i64 (aY s (A:Int)).1,.int .i64 (aY s (A:Int)).2.1,iE (aY s (A:Int)).2.2])∧w'=w:=by
 have HP:Hid (∀w,Calls Tryz.prog 149 #[.string s,.int .i64 (A:Int)] w fun e w'=>e=.returned (.int .i64 0)∧w'=w):=fun w=>by have:=og s (A:Int) w (by unfold maxLen;omega);rwa[if_neg (by omega),if_neg (by omega)]at this
 have R:Hid (aY s (A:Int)=fw s A 10 0):=by show _=_;rw[aY,if_neg (by omega),if_neg (by omega),Int.toNat_natCast]
 go_enter Tryz.func117,Tryz.ntmps117;go_wp2;refine lM (Aa s A w) (fun l a' _=>if l=1 then 102-(intOf (a'.tmps.getD 9 undef)).toNat else if l=2 then 1 else 0) ?_ ?_;·
  go_wp2_with(go_at_call 149;refine(HP.out _).mono ?_;rintro e w1⟨rfl,U⟩;obtain rfl:w=w1:=U.symm;clear U);go_step3;by_cases b9:s.size≤A;·go_wp2;go_step3;exact jY (by omega) (by rw[R.out,nM (by omega)])
  ·have J:A<s.size:=by omega
   have C:=aa (nC J);by_cases ab:s[A].toNat<128;·go_wp2;go_step3;exact ou 0 (by omega) (by omega) (wu J) (by rw[←C.out];rfl) rfl (lF (by omega) (by omega)) (by rw[R.out,km (by omega) (by omega) (by rw[Nat.add_zero,C.out];omega)];rfl)
   ·go_wp2;go_step3;exact tr 1 (by omega) (by omega) (by omega) (wu J) rfl (by rw[R.out,mN (by omega) (by omega) (by rw[Nat.add_zero,C.out];omega)])
 ·intro l a' w' h;obtain⟨rfl,⟨rfl,k,z,ad,af,ag,ah,ao,u16,av,ax,ay,az,a0,a1,a2,a3,a4,a5,a8,a9,ba,bb,be,u32,bf,bg,bi,bk,bm,bn,bp,br,bs,bv,bx,bz,bL,b0,b1,b2,b3,b4,b5,b6,b7,cc,b8,rfl,I⟩|⟨rfl,k,ad,af,ag,ah,ao,u16,av,ax,ay,az,a0,a1,a2,a3,a4,a5,a8,a9,ba,bb,be,u32,bf,bg,bi,bk,bm,bn,bp,br,bs,bv,bx,bz,bL,b0,b1,b2,b3,b4,b5,b6,b7,b8,rfl,hu,I⟩|⟨rfl,c,x,y,z,t,ad,af,ag,ah,ao,u16,av,ax,ay,az,a0,a1,a2,a3,a4,a5,a8,a9,ba,bb,be,u32,bf,bg,bi,bk,bm,bn,bp,br,bs,bv,bx,bz,bL,b0,b1,b2,b3,b4,b5,b6,b7,hc,rfl,I⟩⟩:=h;·
   refine⟨_,rfl,?_⟩;have j:=aa I;clear I R HP;by_cases b9:s.size≤A+k;·go_wp2;go_step3;refine⟨jY (by omega) (by rw[j.out,show 10-k=(9-k)+1 from by omega,nM (by omega)]),?_⟩;simp[intOf];omega
   ·have J:A+k<s.size:=by omega
    have C:=aa (nC J);by_cases T:k=9;·
     subst T;by_cases P:1<s[A+9].toNat;·go_wp2;go_step3;refine⟨jY (by omega) (by rw[j.out,xe (by omega) rfl (by rw[C.out];exact P)]),?_⟩;simp[intOf]
     ·go_wp2;go_step3;refine⟨ou 9 (by omega) (by omega) (C8 J (by rw[C.out];exact P)) (by rw[C.out]) rfl (lF (by omega) (by rw[C.out];omega)) (by rw[j.out,km (by omega) (by rw[C.out];omega) (by rw[C.out];omega)];rfl),?_⟩;simp[intOf]
    ·have g:((7*(k:Int))==63)=false:=beq_eq_false_iff_ne.2 (by omega);by_cases ab:s[A+k].toNat<128;·go_wp2;go_step3;refine⟨ou k (by omega) (by omega) (vi (by omega) J (fun x=>T x.1)) (by rw[C.out]) (by omega) (lF (by omega) (fun x=>T x.1)) (by rw[j.out,show 10-k=(9-k)+1 from by omega,km (by omega) (fun x=>T x.1) (by rw[C.out];omega)];rfl),?_⟩;simp[intOf];omega
     ·go_wp2;go_step3;refine⟨tr (k+1) (by omega) (by omega) (by omega) (vi (by omega) J (fun x=>T x.1)) (by omega) (by rw[j.out,show 10-k=(9-k)+1 from by omega,mN (by omega) T (by rw[C.out];omega),show 9-k=10-(k+1)from by omega]),?_⟩;simp[intOf];omega
  ·refine⟨_,rfl,?_⟩;have j:=aa I;have HU:=aa hu;clear I R HP hu;by_cases hz:iP s (A+k)=0∧0<k;·have g:((iP s (A+k):Int)==0)=true:=beq_iff_eq.2 (by omega);have g2:decide ((0:Int)<7*(k:Int))=true:=decide_eq_true (by omega);have HZ:=aa (BU hz j.out);clear hz;go_wp2_with fail;go_step3;refine⟨jY (by omega) HZ.out,?_⟩;simp
   ·have HZ:Hid (aY s (A:Int)=(cO (jk s A (k+1)),(A:Int)+(k:Int)+1,0)):=by show _=_;rw[j.out,if_neg hz]
    by_cases ac:iP s (A+k)=0;·
     have g:((iP s (A+k):Int)==0)=true:=beq_iff_eq.2 (by omega);obtain rfl:k=0:=by omega
     clear hz ac;go_wp2_with(go_at_call 150;refine(tH _ _ HU.out).mono ?_;rintro e w1⟨rfl,U⟩;subst U);all_goals simp only[mO];go_ret3;exact⟨by rw[HZ.out];rfl,rfl⟩
    ·have g:((iP s (A+k):Int)==0)=false:=beq_eq_false_iff_ne.2 (by omega);clear hz ac;go_wp2_with(go_at_call 150;refine(tH _ _ HU.out).mono ?_;rintro e w1⟨rfl,U⟩;subst U);simp only[mO];go_ret3;exact⟨by rw[HZ.out];rfl,rfl⟩
  ·refine⟨_,rfl,?_⟩;have j:=aa I;clear I R HP;have HE:Hid (iE c=.iface 156 (.agg #[.int .i64 c])):=if_neg (by omega);go_wp2;simp only[mO];go_ret3;exact⟨by rw[j.out,HE.out];rfl,rfl⟩
theorem pj(s:ByteArray)(a:Int)(c:Int)(w:World)(hc:c=1∨c=2)(hp:∀w,Calls Tryz.prog 149 #[.string s,.int .i64 a] w fun e w'=>e=.returned (.int .i64 c)∧w'=w):Calls Tryz.prog 117 #[.string s,.int .i64 a] w fun e w'=>e=.returned (.tuple #[.int .i64 0,.int .i64 0,iE c])∧w'=w:=by
 have HP:=aa hp;have HE:Hid (iE c=.iface 156 (.agg #[.int .i64 c])):=if_neg (by omega);have g:(c !=0)=true:=by rw[bne_iff_ne];omega
 clear hp;go_enter Tryz.func117,Tryz.ntmps117;go_wp2;refine lM (fun l a' w'=>w'=w∧l=0∧∃(x y z t:Int)(j C I J P u16 R T U ab ac ad af ag ah ao av ax ay az a0 u32 a1 a2 a3 a4 a5 a8 a9 ba bb be bf bg bi bk bm bn bp br bs bv bx:Value),a'={tmps:=#[.string s,.int .i64 x,undef,undef,.int .i64 0,.int .i64 0,.nilIface,.int .u64 y,.int .u8 z,.int .i64 t,.int .i64 c,j,C,I,J,P,u16,R,T,U,ab,ac,ad,af,ag,ah,ao,av,ax,ay,az,a0,u32,a1,a2,a3,a4,a5,a8,a9,ba,bb,be,bf,bg,bi,bk,bm,bn,bp,br,bs,bv,bx],defers:=[]}) (fun _ _ _=>0) ?_ ?_;·go_wp2_with(go_at_call 149;refine(HP.out _).mono ?_;rintro e w1⟨rfl,hw⟩;obtain rfl:w=w1:=hw.symm;clear hw);go_step3;exact⟨rfl,rfl,_,_,_,_,_,_,_,_,_,_,_,_,_,_,_,_,_,_,_,_,_,_,_,_,_,_,_,_,_,_,_,_,_,_,_,_,_,_,_,_,_,_,_,_,_,_,_,rfl⟩
 ·intro l a' w' h;obtain⟨rfl,rfl,x,y,z,t,j,C,I,J,P,u16,R,T,U,ab,ac,ad,af,ag,ah,ao,av,ax,ay,az,a0,u32,a1,a2,a3,a4,a5,a8,a9,ba,bb,be,bf,bg,bi,bk,bm,bn,bp,br,bs,bv,bx,rfl⟩:=h;refine⟨_,rfl,?_⟩;go_wp2;simp only[mO];go_ret3;exact⟨by rw[HE.out];rfl,rfl⟩
theorem yb(s:ByteArray)(a:Int)(w:World)(C:s.size≤maxLen)(I:a≤9223372036854775807):Calls Tryz.prog 117 #[.string s,.int .i64 a] w fun e w'=>e=.returned (.tuple #[.int .i64 (aY s a).1,.int .i64 (aY s a).2.1,iE (aY s a).2.2])∧w'=w:=by
 by_cases j:8000<s.size;·
  have e:aY s a=(0,0,2):=by rw[aY,if_pos j]
  rw[e];exact pj s a 2 w (by omega) (fun w=>by have:=og s a w C;rwa[if_pos j]at this)
 ·by_cases l:a<0;·
   have e:aY s a=(0,0,1):=by rw[aY,if_neg j,if_pos l]
   rw[e];exact pj s a 1 w (by omega) (fun w=>by have:=og s a w C;rwa[if_neg j,if_pos l]at this)
  ·obtain⟨A,rfl⟩:=Int.eq_ofNat_of_zero_le (show 0≤a by omega);exact yd s A w (by omega) I
theorem Hc{s:ByteArray}{A k:Nat}(C:k≤9)(l:A+k<s.size)(j:¬(k=9∧1<iP s (A+k))):IntKind.u64.wrap ((jk s A k:Int)+IntKind.u64.wrap ((s[A+k].toNat:Int)%128*2^(7*k)))=(jk s A (k+1):Int):=by
 have I:=(lF (s:=s) (a:=A) C j).lt;rw[jk]at I;have e2:(s[A+k].toNat:Int)%128*2^(7*k)=((iP s (A+k)%128*128^k:Nat):Int):=by rw[←Jj,Int.natCast_mul,Int.natCast_pow,nC l];rfl
 rw[e2,IntKind.wrap_u64,IntKind.wrap_u64,Int.emod_eq_of_lt (by omega) (by omega),Int.emod_eq_of_lt (by omega) (by omega)];rfl
theorem kM{r:Int×Int×Int}{x y z:Int}(h:r=(x,y,z)):Ending.returned (.agg #[.int .i64 x,.int .i64 y,.int .i64 z])=.returned (.agg #[.int .i64 r.1,.int .i64 r.2.1,.int .i64 r.2.2]):=by rw[h]
theorem E7{U A k:Nat}{r:Int×Int×Int}(j:i7 U)(l:((U:Int)%2==1)=true)(h:r=(cO U,((A+k+1:Nat):Int),0)):r=(wrap64 (wrap64 (-wrap64 (IntKind.u64.wrap ((U:Int)/2)))-1),(A:Int)+(k:Int)+1,0):=by
 have I:=j.lt;have C:(U:Int)%2=1:=by simpa using l
 have e:cO U=wrap64 (wrap64 (-wrap64 (IntKind.u64.wrap ((U:Int)/2)))-1):=by rw[cO,if_pos (by omega),IntKind.wrap_u64];unfold wrap64;omega
 rw[h,e];rfl
theorem CD{U A k:Nat}{r:Int×Int×Int}(j:i7 U)(l:((U:Int)%2==1)=false)(h:r=(cO U,((A+k+1:Nat):Int),0)):r=(wrap64 (IntKind.u64.wrap ((U:Int)/2)),(A:Int)+(k:Int)+1,0):=by
 have I:=j.lt;have C:¬(U:Int)%2=1:=by simpa using l
 have e:cO U=wrap64 (IntKind.u64.wrap ((U:Int)/2)):=by rw[cO,if_neg (by omega),IntKind.wrap_u64];unfold wrap64;omega
 rw[h,e];rfl
theorem yx(s:ByteArray)(A:Nat)(w:World)(hs:s.size≤8000)(hA:(A:Int)≤9223372036854775807):Calls Tryz.prog 123 #[.string s,.int .i64 (A:Int)] w fun e w'=>e=.returned (.agg #[.int .i64 (aY s (A:Int)).1,.int .i64 (aY s (A:Int)).2.1,.int .i64 (aY s (A:Int)).2.2])∧Below w.heap.size w w':=by
 have HN:Hid (aY s (A:Int)=fw s A 10 0):=by show _=_;rw[aY,if_neg (by omega),if_neg (by omega),Int.toNat_natCast]
 go_enter Tryz.func123,Tryz.ntmps123;go_wp2;go_loop[5,6,7,8](fun x i _ _=>∃k:Nat,k≤9∧i=.int .i64 k∧x=.int .u64 (jk s A k:Int)∧aY s (A:Int)=fw s A (10-k) k)(fun _ i _ _=>20-(intOf i).toNat);case atStart=>exact⟨0,by omega,rfl,rfl,HN.out⟩
 case round=>
  obtain⟨k,hk,rfl,rfl,hN⟩:=hrel;have j:=aa hN;clear hN HN;by_cases ad:s.size≤A+k;·
   have J:Hid (aY s (A:Int)=(0,0,4)):=by show _=_;rw[j.out,show 10-k=(9-k)+1 from by omega,nM (by omega)]
   go_wp2;exact bodyPost_ret (v:=.agg #[.int .i64 0,.int .i64 0,.int .i64 4]) (by simp[results,Tryz.results123,go_sem]) rfl ⟨kM J.out,(Below.refl _ _).alloc (Nat.le_refl _) _⟩
  ·have hb:A+k<s.size:=by omega
   have T:=aa (nC hb);have ac:(s[A+k].toNat:Int)<256:=by have:=s[A+k].toNat_lt;omega
   by_cases R:k=9∧1<s[A+k].toNat;·
    have J:Hid (aY s (A:Int)=(0,0,3)):=by show _=_;rw[j.out,show 10-k=(9-k)+1 from by omega,xe (by omega) R.1 (by rw[T.out];exact R.2)]
    have g:((k:Int)==9)=true:=beq_iff_eq.2 (by omega);have g2:=R.2;clear R;go_wp2;exact bodyPost_ret (v:=.agg #[.int .i64 0,.int .i64 0,.int .i64 3]) (by simp[results,Tryz.results123,go_sem]) rfl ⟨kM J.out,(Below.refl _ _).alloc (Nat.le_refl _) _⟩
   ·have l:=Hc hk hb (by rw[T.out];exact R);have hU:=lF (s:=s) (a:=A) hk (by rw[T.out];exact R);by_cases P:s[A+k].toNat<128;·
     have HL:=aa (show aY s (A:Int)=if iP s (A+k)=0∧0<k then(0,0,3)else(cO (jk s A (k+1)),((A+k+1:Nat):Int),0)by rw[j.out,show 10-k=(9-k)+1 from by omega,km (by omega) (by rw[T.out];exact R) (by rw[T.out];exact P)]);rw[T.out]at HL;clear j;have C:(((k:Int)==9)=true∧decide (1<(s[A+k].toNat:Int))=false)∨(((k:Int)==9)=false∧True):=by
      by_cases e9:k=9;·exact .inl ⟨beq_iff_eq.2 (by omega),decide_eq_false (by omega)⟩
      ·exact .inr ⟨beq_eq_false_iff_ne.2 (by omega),trivial⟩
     clear R;by_cases hz:s[A+k].toNat=0∧0<k;·
      have J:Hid (aY s (A:Int)=(0,0,3)):=by show _=_;rw[HL.out,if_pos hz]
      have gz:((s[A+k].toNat:Int)==0)=true:=beq_iff_eq.2 (by omega);have gk:0<k:=hz.2;clear hz HL l hU;rcases C with⟨gA,g1⟩|⟨gA,g1⟩;all_goals go_wp2;exact bodyPost_ret (v:=.agg #[.int .i64 0,.int .i64 0,.int .i64 3]) (by simp[results,Tryz.results123,go_sem]) rfl ⟨kM J.out,(Below.refl _ _).alloc (Nat.le_refl _) _⟩
     ·have J:Hid (aY s (A:Int)=(cO (jk s A (k+1)),((A+k+1:Nat):Int),0)):=by show _=_;rw[HL.out,if_neg hz]
      clear HL;have I:(((s[A+k].toNat:Int)==0)=true∧decide ((0:Int)<(k:Int))=false)∨(((s[A+k].toNat:Int)==0)=false∧True):=by
       by_cases e0:s[A+k].toNat=0;·exact .inl ⟨beq_iff_eq.2 (by omega),decide_eq_false (by omega)⟩
       ·exact .inr ⟨beq_eq_false_iff_ne.2 (by omega),trivial⟩
      clear hz;generalize jk s A (k+1)=U at*;rcases C with⟨gA,g1⟩|⟨gA,g1⟩;all_goals
       rcases I with⟨gB,g2⟩|⟨gB,g2⟩;all_goals
        go_wp2;all_goals
         first
          |
           (
            have ab:0<k:=by assumption
            exact absurd ab (by have:=of_decide_eq_false g2;omega))|
           (
            have hp:((U:Int)%2==1)=true:=by assumption
            exact bodyPost_ret (v:=.agg #[.int .i64 (wrap64 (wrap64 (-wrap64 (IntKind.u64.wrap ((U:Int)/2)))-1)),.int .i64 ((A:Int)+(k:Int)+1),.int .i64 0]) (by simp[results,Tryz.results123,go_sem]) rfl ⟨kM (E7 hU hp J.out),(Below.refl _ _).alloc (Nat.le_refl _) _⟩)|
           (
            have hp:((U:Int)%2==1)=false:=by assumption
            exact bodyPost_ret (v:=.agg #[.int .i64 (wrap64 (IntKind.u64.wrap ((U:Int)/2))),.int .i64 ((A:Int)+(k:Int)+1),.int .i64 0]) (by simp[results,Tryz.results123,go_sem]) rfl ⟨kM (CD hU hp J.out),(Below.refl _ _).alloc (Nat.le_refl _) _⟩)
    ·have g:((k:Int)==9)=false:=beq_eq_false_iff_ne.2 (by omega);have HM:=aa (show aY s (A:Int)=fw s A (10-(k+1)) (k+1)by rw[j.out,show 10-k=(9-k)+1 from by omega,mN (by omega) (by omega) (by rw[T.out];exact P),show 9-k=10-(k+1)from by omega]);have HA:=aa l;clear l hU;go_wp2;go_round;case rel=>exact⟨k+1,by omega,by go_num,by rw[HA.out],HM.out⟩
     case measure=>simp[intOf];omega
theorem yw(s:ByteArray)(a:Int)(w:World)(I:s.size≤maxLen)(l:a≤9223372036854775807):Calls Tryz.prog 123 #[.string s,.int .i64 a] w fun e w'=>e=.returned (.agg #[.int .i64 (aY s a).1,.int .i64 (aY s a).2.1,.int .i64 (aY s a).2.2])∧Below w.heap.size w w':=by
 by_cases C:8000<s.size;·
  have j:Hid (aY s a=(0,0,2)):=by show _=_;rw[aY,if_pos C]
  unfold maxLen at I;clear l;go_enter Tryz.func123,Tryz.ntmps123;go_wp2_with fail;exact bodyPost_ret (v:=.agg #[.int .i64 0,.int .i64 0,.int .i64 2]) (by simp[results,Tryz.results123,go_sem]) rfl ⟨kM j.out,(Below.refl _ _).alloc (Nat.le_refl _) _⟩
 ·by_cases J:a<0;·
   have j:Hid (aY s a=(0,0,1)):=by show _=_;rw[aY,if_neg C,if_pos J]
   unfold maxLen at I;clear l;go_enter Tryz.func123,Tryz.ntmps123;go_wp2_with fail;exact bodyPost_ret (v:=.agg #[.int .i64 0,.int .i64 0,.int .i64 1]) (by simp[results,Tryz.results123,go_sem]) rfl ⟨kM j.out,(Below.refl _ _).alloc (Nat.le_refl _) _⟩
  ·obtain⟨A,rfl⟩:=Int.eq_ofNat_of_zero_le (show 0≤a by omega);exact yx s A w (by omega) l
theorem y9(s:ByteArray)(a:Nat):∀f k,((fw s a f k).2.2=0∧1≤(fw s a f k).2.1∧(fw s a f k).2.1≤(s.size:Int))∨((fw s a f k).1=0∧(fw s a f k).2.1=0∧1≤(fw s a f k).2.2∧(fw s a f k).2.2≤4):=by
 intro f;induction f with
  |zero=>intro k;right;simp[fw]|succ f ih=>
   intro k;unfold fw;split;·right;simp
   ·split;·right;simp
    ·split;·
      split;·right;simp
      ·left;refine⟨rfl,?_,?_⟩<;>simp<;>omega
     ·exact ih (k+1)
theorem gv(s:ByteArray)(a:Int):((aY s a).2.2=0∧1≤(aY s a).2.1∧(aY s a).2.1≤(s.size:Int)∧s.size≤8000)∨((aY s a).1=0∧(aY s a).2.1=0∧1≤(aY s a).2.2∧(aY s a).2.2≤4):=by
 unfold aY;split;·right;simp
 ·split;·right;simp
  ·rcases y9 s a.toNat 10 0 with h|h;·left;exact⟨h.1,h.2.1,h.2.2,by omega⟩
   ·right;exact h
def dd(s:ByteArray)(a:Int):ByteArray×Int×Int:=if(aY s a).2.2≠0 then(⟨#[]⟩,0,(aY s a).2.2)else if(aY s a).1<0∨8000<(aY s a).1 then(⟨#[]⟩,0,3)else if(s.size:Int)-(aY s a).2.1<(aY s a).1 then(⟨#[]⟩,0,4)else(s.extract (aY s a).2.1.toNat ((aY s a).2.1.toNat+(aY s a).1.toNat),(aY s a).2.1+(aY s a).1,0)
theorem rK{r:ByteArray×Int×Int}{x:ByteArray}{y z:Int}{v:Value}(h:r=(x,y,z))(j:v=iE z):Ending.returned (.tuple #[.string x,.int .i64 y,v])=.returned (.tuple #[.string r.1,.int .i64 r.2.1,iE r.2.2]):=by rw[h,j]
theorem Cp(s:ByteArray)(a:Int)(w:World)(hs:s.size≤maxLen)(ha:a≤9223372036854775807):Calls Tryz.prog 118 #[.string s,.int .i64 a] w fun e w'=>e=.returned (.tuple #[.string (dd s a).1,.int .i64 (dd s a).2.1,iE (dd s a).2.2])∧Below w.heap.size w w':=by
 have T:Hid (∀w,Calls Tryz.prog 117 #[.string s,.int .i64 a] w fun e w'=>e=.returned (.tuple #[.int .i64 (aY s a).1,.int .i64 (aY s a).2.1,iE (aY s a).2.2])∧w'=w):=fun w=>yb s a w hs ha;have ad:=gv s a;have l:Hid (dd s a=if(aY s a).2.2≠0 then(⟨#[]⟩,0,(aY s a).2.2)else if(aY s a).1<0∨8000<(aY s a).1 then(⟨#[]⟩,0,3)else if(s.size:Int)-(aY s a).2.1<(aY s a).1 then(⟨#[]⟩,0,4)else(s.extract (aY s a).2.1.toNat ((aY s a).2.1.toNat+(aY s a).1.toNat),(aY s a).2.1+(aY s a).1,0)):=rfl;clear ha;generalize(aY s a).1=N at*;generalize(aY s a).2.1=B at*;generalize(aY s a).2.2=C at*;unfold maxLen at hs;rcases ad with⟨rfl,h1,h2,h8⟩|⟨rfl,rfl,h1,h4⟩;·
  have U:Hid (iE 0=.nilIface):=if_pos rfl;rw[U.out]at T;by_cases P:N<0∨8000<N;·
   have I:Hid (dd s a=(⟨#[]⟩,0,3)):=by show _=_;rw[l.out,if_neg (by simp),if_pos P]
   clear l;have J:(decide (N<0)=true)∨(decide (N<0)=false∧8000<N):=by
    rcases P with h|h;·exact .inl (decide_eq_true h)
    ·exact .inr ⟨decide_eq_false (by omega),h⟩
   clear P;rcases J with g|⟨g,g2⟩;all_goals go_enter Tryz.func118,Tryz.ntmps118;go_wp2_with(go_at_call 117;refine(T.out _).mono ?_;rintro e R⟨rfl,j⟩;obtain rfl:w=R:=j.symm;clear j);go_ret3;exact⟨rK I.out (by rw[iE,if_neg (by omega)];rfl),Below.refl _ _⟩
  ·have n0:0≤N:=by omega
   have n8:N≤8000:=by omega
   by_cases ac:(s.size:Int)-B<N;·
    have I:Hid (dd s a=(⟨#[]⟩,0,4)):=by show _=_;rw[l.out,if_neg (by simp),if_neg P,if_pos ac]
    clear l P;go_enter Tryz.func118,Tryz.ntmps118;go_wp2_with(go_at_call 117;refine(T.out _).mono ?_;rintro e R⟨rfl,j⟩;obtain rfl:w=R:=j.symm;clear j);go_ret3;exact⟨rK I.out (by rw[iE,if_neg (by omega)];rfl),Below.refl _ _⟩
   ·obtain⟨b,rfl⟩:=Int.eq_ofNat_of_zero_le (show 0≤B by omega);obtain⟨n,rfl⟩:=Int.eq_ofNat_of_zero_le n0;have I:Hid (dd s a=(s.extract b (b+n),(b:Int)+(n:Int),0)):=by show _=_;rw[l.out,if_neg (by simp),if_neg P,if_neg ac];rfl
    have HX:Hid ((s.extract b (b+n)).size≤1000000):=by show _≤_;simp;omega
    clear l P;go_enter Tryz.func118,Tryz.ntmps118;go_wp2_with(go_at_call 117;refine(T.out _).mono ?_;rintro e R⟨rfl,j⟩;obtain rfl:w=R:=j.symm;clear j);refine(Ki (s.extract b (b+n)) _ _ _ (by simp) (by simp) HX.out).mono ?_;rintro e w2⟨rfl,ab⟩;rw[join_one];have HB:=aa ab;clear ab;go_wp2;go_ret3;exact⟨rK I.out U.out.symm,((Below.refl _ _).alloc (Nat.le_refl _) _).trans (HB.out.mono (by simp))⟩
 ·have I:Hid (dd s a=(⟨#[]⟩,0,C)):=by show _=_;rw[l.out,if_pos (by omega)]
  have U:Hid (iE C=.iface 156 (.agg #[.int .i64 C])):=if_neg (by omega);rw[U.out]at T;clear l;go_enter Tryz.func118,Tryz.ntmps118;go_wp2_with(go_at_call 117;refine(T.out _).mono ?_;rintro e R⟨rfl,j⟩;obtain rfl:w=R:=j.symm;clear j);go_ret3;exact⟨rK I.out U.out.symm,Below.refl _ _⟩
end Go.Proofs.YtlbcnmcfljaijaaGreat
