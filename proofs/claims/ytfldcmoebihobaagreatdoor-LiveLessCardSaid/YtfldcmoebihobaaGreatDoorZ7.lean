/- 'easement/easementlaw25.LiveLess' returns true for every input, and each argument tA afterwards as it read before: the row's frame round the walk. -/
import Derived.Test.YtfldcmoebihobaaGreatDoorZ6
import Derived.Test.YtfldcmoebihobaaGreatDoorRows
import Derived.Lib.LaidTab
import Derived.Test.YtfldcmoebihobaaGreatDoorCards
import Derived.Test.YtfldcmoebihobaaGreatDoorTie
import Derived.Lay
import Derived.SevenTiedAt
namespace Go.Proofs.YtfldcmoebihobaaGreatDoor
noncomputable section
set_option linter.unusedVariables false
set_option linter.unnecessarySimpa false
set_option linter.unusedSimpArgs false
set_option maxRecDepth 20000
open Go.RowKit
section
section
variable {b:Bo} {C:List Sw}
theorem rQ:im none=some []:=by
 unfold im
 have h1:eN none 0=some (-1):=rfl
 rw [show mM none=some () from rfl,Option.bind_some,h1,Option.bind_some,iQ (b:=([]:List Int)) rfl]; rfl
theorem BM (hC:CsOk b C) {k:Nat} (hk:k < C.length):de (some ((NB b:Int),C)) (k:Int)=some (li (lvN b k)):=by
 unfold de
 rw [yH hk,Option.bind_some]
 rcases hC.ok k _ (List.getElem?_eq_getElem hk) with ⟨e,h⟩ | ⟨w,e,hd,h⟩
 . rw [e,rQ,xk h]; rfl
 . rw [e,Fe hd,yj h]; rfl
theorem AI {k:Int} (hk:k < 0∨(C.length:Int)≤k):de (some ((NB b:Int),C)) k=some []:=by
 unfold de
 rw [Bu hk,Option.bind_some,rQ]; rfl
end
theorem BN {b:Bo} (h:Sm b) (k:Nat):mW b (k:Int)=some (li (lvN b k)):=by
 have hb:NB b≤131072:=(kT h (Nat.le_refl _)).1
 unfold mW
 rw [show kh b (k:Int)=_ from FP h k,Option.bind_some]
 have e:vec (NB b) (lvB b k)=inL (NB b) (lvN b k):=by
   unfold vec inL
   refine eC fun n hn=>?_
   have:n∈lvN b k↔lvB b k n=true:=by
     unfold lvN
     rw [List.mem_filter,List.mem_range]
     exact ⟨fun h=>h.2,fun h=>⟨hn,h⟩⟩
   by_cases q:lvB b k n=true
   . rw [if_pos q,if_pos (this.2 q)]
   . rw [if_neg q,if_neg (fun h=>q (this.1 h))]
 rw [e,Bp _ (by omega),Option.bind_some]
 congr 2
 unfold lvN
 refine List.filter_congr fun n hn=>?_
 rw [List.mem_range] at hn
 rw [Bool.eq_iff_iff,decide_eq_true_eq,List.mem_filter,List.mem_range]
 exact ⟨fun h=>h.2,fun h=>⟨hn,h⟩⟩
end
section
theorem DQ {b:Bo} (hx:∀ x∈b.2.2.2.2.2.2,x.1.length≤140737488351232):∃ p n l,cw b=some p∧df p=some n∧cx b=some l∧n=((l.length:Nat):Int):=by
 by_cases q:(lck b).1=0
 . have h:=F5 q
   obtain ⟨C,h1,_⟩:=nC h
   exact ⟨_,_,_,h1,kX,ri h,by rw [nQ]⟩
 . refine ⟨some (0,[]),0,[],?_,rfl,BC hx q,rfl⟩
   unfold cw
   have ht:eU b=some (some ([],[])):=by
     unfold eU
     rw [show dm b=_ from Ba hx q]
     rfl
   rw [show eU b=_ from ht]
   rfl
theorem Dt:df none=some 0∧cN none 0=some []∧eP none 0 0=some false∧de none 0=some []∧dR none=some 0:=by
 refine ⟨rfl,rfl,?_,?_,rfl⟩
 . unfold eP
   rfl
 . unfold de
   rw [show eQ none 0=some none from rfl,Option.bind_some,rQ]; rfl
theorem vm {b c:Bo} (h:∀ l,(lvN c l).length≤(lvN b l).length):∀ k,cB c k≤cB b k
 | 0=>Nat.le_refl _
 | k + 1=>by have:=vm h k; have:=h k; unfold cB; omega
structure Les (b c:Bo):Prop where
 nb:NB c=NB b
 loc:c.2.2.2.1=b.2.2.2.1
 lv:∀ l n,LvS c l n→LvS b l n
theorem Les.has {b c:Bo} (h:Les b c) (l n:Nat) (k:lvB c l n=true):lvB b l n=true:=dx.2 (h.lv l n (dx.1 k))
theorem Les.cnt {b c:Bo} (h:Les b c) (l:Nat):(lvN c l).length≤(lvN b l).length:=by
 unfold lvN; rw [h.nb]; exact qT _ fun x hx=>h.has l x hx
abbrev fL:Stm:=(0,0,0,0,false)
theorem DO (b:Bo):Les b b:=⟨rfl,rfl,fun l n h=>h⟩
theorem FY {b:Bo} (hv:(vck b).1=0) {i a:Nat} (hi:i < b.2.2.2.2.2.2.length) (ha:a < b.2.2.2.2.2.2[i].1.length) (hk:b.2.2.2.2.2.2[i].1[a].1=4):Les b (swB b i a fL):=by
 have hv':=G8 (i:=i) (a:=a) (Ga b.2.2.2.1 b.2.1) hv
 have x1:xs b=b.2.2.2.2.2.2:=by unfold xs; rw [if_pos hv]
 have x2:xs (swB b i a fL)=swS b.2.2.2.2.2.2 i a fL:=by unfold xs; rw [if_pos hv']; rfl
 have hs:Sub (swS b.2.2.2.2.2.2 i a fL) b.2.2.2.2.2.2:=C6 hi ha (fun x hx=>by unfold sT at hx; simp [aZ] at hx) (fun x hx=>by unfold sT at hx; rw [hk] at hx; simp [aY] at hx)
 refine ⟨?_,rfl,fun l n h=>?_⟩
 . show bg (xs (swB b i a fL)) (xs (swB b i a fL)).length=bg (xs b) (xs b).length
   rw [x1,x2]; exact rz hs.sk
 . have h:LvX (xs (swB b i a fL)) l n:=h
   show LvX (xs b) l n
   rw [x2] at h; rw [x1]
   exact hs.lv h
section
variable {b c:Bo} {C C':List Sw}
theorem Ev (hC:CsOk b C) (hC':CsOk c C') (h:Les b c) (hL:b.2.2.2.1.length≤65536) (hN:NB b≤131072):loop (jS b (some ((NB b:Int),C)) (some ((NB c:Int),C'))) 0=some (.inl ()):=by
 refine aF (body:=jS b (some ((NB b:Int),C)) (some ((NB c:Int),C'))) (fun k:Nat=>(k:Int)) (NB b) (b := .inl ()) (fun p hp=>?_) ?_
 . have hcl:=hC.len (by omega)
   have hcl':=hC'.len (by rw [h.nb]; omega)
   rw [h.loc] at hcl'
   have h1:=aF (body:=jU b (some ((NB b:Int),C)) (some ((NB c:Int),C')) (p:Int)) (fun k:Nat=>(k:Int)) b.2.2.2.1.length (b := .inl ()) (fun k hk=>by
     unfold jU
     rw [dlt hk,cond_true,ya hC' (p:Int) (by omega),Option.bind_some,ak hk (by omega),decide_eq_true (Int.natCast_nonneg p),Bool.true_and,Int.toNat_natCast]
     cases q:lvB c k p with
     | false=>rfl
     | true =>
       rw [cond_true,ya hC (p:Int) (by omega),decide_eq_true (Int.natCast_nonneg p),Bool.true_and,Int.toNat_natCast,h.has _ _ q]; rfl) (by
     unfold jU
     rw [dge (by omega),cond_false])
   unfold jS
   rw [kX,Option.bind_some,dlt hp,cond_true,show loop (jU b (some ((NB b:Int),C)) (some ((NB c:Int),C')) (p:Int)) 0=_ from h1,ak hp (by omega)]; rfl
 . unfold jS
   rw [kX,Option.bind_some,dge (by omega),cond_false]
theorem Fq (hC':CsOk c C') (hsc:Sm c) (h:Les b c) (e:c=(b.1,b.2.1,b.2.2.1,b.2.2.2.1,b.2.2.2.2.1,b.2.2.2.2.2.1,c.2.2.2.2.2.2)):loop (jT b c.2.2.2.2.2.2 (some ((NB c:Int),C'))) 0=some (.inl ()):=by
 have hL:=hsc.locals
 rw [h.loc] at hL
 refine aF (body:=jT b c.2.2.2.2.2.2 (some ((NB c:Int),C'))) (fun k:Nat=>(k:Int)) b.2.2.2.1.length (b := .inl ()) (fun k hk=>?_) ?_
 . unfold jT
   rw [dlt hk,cond_true,← e,BN hsc k,Option.bind_some,bH,ak hk (by omega)]
   have hp:∃ l,de (some ((NB c:Int),C')) (k:Int)=some l∧l.length=(lvN c k).length:=by
     by_cases h0:0 < NB c
     . exact ⟨_,BM hC' (by rw [hC'.len h0,h.loc]; exact hk),bH _⟩
     . refine ⟨_,AI (.inr (by rw [hC'.z (by omega)]; simp)),?_⟩
       have:=xN c k
       simp; omega
   obtain ⟨l,e1,e2⟩:=hp
   by_cases q:(lvN c k).length=0
   . rw [decide_eq_true (by omega),cond_true,e1,Option.bind_some,e2,q]; rfl
   . rw [decide_eq_false (by omega),cond_false]; rfl
 . unfold jT
   rw [dge (by omega),cond_false]
end
theorem AZ (xa:Bo) (xb:Int) (xc:Int) (k0:Tp.Ok sQ xa) (k1:Tp.Ok (.int .i64) xb) (k2:Tp.Ok (.int .i64) xc) (q0:Tp.Fit sQ xa) (q1:Tp.Fit (.int .i64) xb) (q2:Tp.Fit (.int .i64) xc):qi xa xb xc=some true:=by
 have hx:=Df q0
 have etup:xa=xa:=rfl
 have big:((cw xa).bind fun p2455=>(df p2455).bind fun i2463=>(cx xa).bind fun l2469=>cond (decide (i2463=(((l2469.length:Nat):Int)))) ((iu).bind fun t2480=>some (t2480)) (some (false)))=some true:=by
   obtain ⟨p,n,l,h1,h2,h3,h4⟩:=DQ hx
   rw [show cw xa=_ from h1,Option.bind_some,h2,Option.bind_some,show cx xa=_ from h3,Option.bind_some,decide_eq_true h4,cond_true,xv]; rfl
 unfold qi
 rcases Id xa hx with h | ⟨h,hf⟩
 . rw [show gy xa=some false from h]
   simp only [Option.bind_some,Bool.not_false,cond_true]
   exact big
 . rw [show gy xa=some true from h,show eW xa=_ from CV hx]
   simp only [Option.bind_some,Bool.not_true,cond_false]
   by_cases q:(lck xa).1=0
   . rw [decide_eq_true q,Bool.not_true,cond_false]
     have hs:=hf.sm
     have hv:(vck xa).1=0:=by rw [← Fg hx hs]; exact q
     have hbk:=hf.blocks
     rw [aI (by simp; omega),Option.bind_some,List.nil_append]
     refine E9 (Q:=fun L=>∃ c,Sm c∧Les xa c∧c=(xa.1,xa.2.1,xa.2.2.1,xa.2.2.2.1,xa.2.2.2.2.1,xa.2.2.2.2.2.1,L)) ?_ ?_
     . have stay:∃ r,(some xa.2.2.2.2.2.2:Option (List Blk))=some r∧∃ c,Sm c∧Les xa c∧c=(xa.1,xa.2.1,xa.2.2.1,xa.2.2.2.1,xa.2.2.2.2.1,xa.2.2.2.2.2.1,r):=⟨_,rfl,xa,hs,DO xa,rfl⟩
       by_cases c1:(0≤xb∧xb < ((xa.2.2.2.2.2.2.length:Nat):Int))∧0≤xc
       . obtain ⟨⟨b0,b1⟩,a0⟩:=c1
         obtain ⟨i,rfl⟩:=Int.eq_ofNat_of_zero_le b0
         obtain ⟨a,rfl⟩:=Int.eq_ofNat_of_zero_le a0
         have hi:i < xa.2.2.2.2.2.2.length:=by omega
         rw [decide_eq_true b0,decide_eq_true b1,decide_eq_true a0]
         simp only [Bool.and_self,cond_true,ah hi,Option.bind_some,nM,Int.toNat_natCast]
         have hst:=hs.stmts (List.getElem_mem hi)
         by_cases c2:a < xa.2.2.2.2.2.2[i].1.length
         . rw [dlt c2]
           simp only [cond_true,ah c2,Option.bind_some]
           by_cases c3:xa.2.2.2.2.2.2[i].1[a].1=4
           . rw [decide_eq_true c3]
             simp only [cond_true]
             rw [aI (by simp; omega)]
             simp only [Option.bind_some,List.nil_append,ah c2]
             refine ⟨_,rfl,swB xa i a fL,hs.sw _ _ _,FY hv hi c2 c3,?_⟩
             unfold swB swS
             rw [ce hi]
           . rw [decide_eq_false c3]; exact stay
         . rw [dge c2]; exact stay
       . have:(((decide (0≤xb))&&(decide (xb < (((xa.2.2.2.2.2.2.length:Nat):Int)))))&&(decide (0≤xc)))=false:=by
           rw [← Bool.not_eq_true]; simp only [Bool.and_eq_true,decide_eq_true_eq]; exact c1
         rw [this]; exact stay
     . rintro L ⟨c,hsc,hl,e⟩
       have eL:L=c.2.2.2.2.2.2:=by rw [e]
       subst eL
       obtain ⟨C,h1,hC⟩:=nC hs
       obtain ⟨C',h1',hC'⟩:=nC hsc
       have hN32:=FM hf
       have hl10:=hf.locals
       have hcl:C.length≤10∧C'.length=C.length:=by
         by_cases h0:0 < NB xa
         . rw [hC.len h0,hC'.len (by rw [hl.nb]; exact h0),hl.loc]; exact ⟨hl10,rfl⟩
         . rw [hC.z (by omega),hC'.z (by rw [hl.nb]; omega)]; simp
       have hm1:C.length * NB xa≤10 * 32:=Nat.mul_le_mul hcl.1 hN32
       have hm2:C'.length * NB c≤10 * 32:=by rw [hcl.2,hl.nb]; exact hm1
       obtain ⟨n1,n2,n3,n4,n5⟩:=Dt
       rw [show cw xa=_ from h1,Option.bind_some,← e,h1',Option.bind_some,Ev hC hC' hl (by omega) (by omega)]
       simp only [Option.bind_some]
       rw [Fq hC' hsc hl e]
       simp only [Option.bind_some]
       rw [kX,kX,hl.nb,qZ hC (by omega) (by omega),show (some ((NB xa:Int),C'):Option (Int×List Sw))=some ((NB c:Int),C') by rw [hl.nb],qZ hC' (by omega) (by omega)]
       have hsum:=vm (b:=xa) (c:=c) hl.cnt C.length
       simp only [Option.bind_some,decide_true,cond_true,n1,n2,n3,n4,n5,xv,List.length_nil]
       rw [hcl.2,decide_eq_true (by omega)]
       rfl
   . rw [decide_eq_false q,Bool.not_false,cond_true]
     exact big
end
theorem AS {H:Type} (enc:TypeId×Value→H) (W:World) (base:Nat) {v0 v1 v2:Value} {d0 d1 d2:DataW H} {p0 p1 p2:List MemPlace}
   (h0:DataW.Trod enc Tryz.prog W 0 (fun _=>true) true 30 v0 d0 p0) (h1:DataW.Trod enc Tryz.prog W 0 (fun _=>true) true 3 v1 d1 p1) (h2:DataW.Trod enc Tryz.prog W 0 (fun _=>true) true 3 v2 d2 p2)
   (o0:Value.okWide Tryz.prog W .any base 30 v0) (o1:Value.okWide Tryz.prog W .any base 3 v1) (o2:Value.okWide Tryz.prog W .any base 3 v2)
   (hgk:tzGk (Hp.of W))
   (w0:(d0.weights Tryz.prog 30).all (·≤reachBytes)=true)
   (w1:(d1.weights Tryz.prog 3).all (·≤reachBytes)=true)
   (w2:(d2.weights Tryz.prog 3).all (·≤reachBytes)=true) :
   Calls Tryz.prog 4 #[v0,v1,v2] W fun e W'=>e = .returned (.bool true)∧Below W.heap.size W W':=by
 obtain ⟨xa,i0,k0⟩:=Tp.arg (.cons (.int .i64) (.cons (.int .i64) (.cons (.sl (.cons (.int .i64) (.one (.int .i64)))) (.cons (.sl (.one (.sl (.cons (.int .i64) (.one .bool))))) (.cons (.one (.sl (.cons (.int .i64) (.one .bool)))) (.cons (.sl (.cons (.int .i64) (.cons (.sl (.cons (.int .i64) (.one (.int .i64)))) (.cons (.sl (.one (.sl (.cons (.int .i64) (.one .bool))))) (.one (.one (.sl (.cons (.int .i64) (.one .bool))))))))) (.one (.sl (.cons (.sl (.cons (.int .i64) (.cons (.int .i64) (.cons (.int .i64) (.cons (.int .i64) (.one .bool)))))) (.one (.cons (.int .i64) (.cons (.int .i64) (.cons (.int .i64) (.cons (.sl (.int .i64)) (.cons (.sl (.int .i64)) (.one (.sl (.int .i64)))))))))))))))))) (by kernel_rfl) o0 h0
 have q0:=Tp.argFit (.cons (.int .i64) (.cons (.int .i64) (.cons (.sl (.cons (.int .i64) (.one (.int .i64)))) (.cons (.sl (.one (.sl (.cons (.int .i64) (.one .bool))))) (.cons (.one (.sl (.cons (.int .i64) (.one .bool)))) (.cons (.sl (.cons (.int .i64) (.cons (.sl (.cons (.int .i64) (.one (.int .i64)))) (.cons (.sl (.one (.sl (.cons (.int .i64) (.one .bool))))) (.one (.one (.sl (.cons (.int .i64) (.one .bool))))))))) (.one (.sl (.cons (.sl (.cons (.int .i64) (.cons (.int .i64) (.cons (.int .i64) (.cons (.int .i64) (.one .bool)))))) (.one (.cons (.int .i64) (.cons (.int .i64) (.cons (.int .i64) (.cons (.sl (.int .i64)) (.cons (.sl (.int .i64)) (.one (.sl (.int .i64)))))))))))))))))) (r := .any) (b:=base) (by kernel_rfl) (by kernel_rfl) h0 i0 w0
 obtain ⟨xb,i1,k1⟩:=Tp.arg (.int .i64) (by kernel_rfl) o1 h1
 have q1:=Tp.argFit (.int .i64) (r := .any) (b:=base) (by kernel_rfl) (by kernel_rfl) h1 i1 w1
 obtain ⟨xc,i2,k2⟩:=Tp.arg (.int .i64) (by kernel_rfl) o2 h2
 have q2:=Tp.argFit (.int .i64) (r := .any) (b:=base) (by kernel_rfl) (by kernel_rfl) h2 i2 w2
 exact GS (s:=uA) (x:=(xa,xb,xc)) (args:=[v0,v1,v2]) AF (AZ xa xb xc k0 k1 k2 q0 q1 q2) hgk rfl rfl ⟨_,_,rfl,oO _ i0,_,_,rfl,oO _ i1,_,_,rfl,oO _ i2,rfl⟩
theorem Gs:∀ j,j < 64→(Lib.deBruijn64tab.map Int.ofNat).getD j 0=((Lib.deBruijn64tab.getD j 0:Nat):Int):=by decide +kernel
theorem El {W : World} {rest : List (String × DataW Unit)} (h : laidMet Tryz.prog (("math/bits.deBruijn64tab", Rows.laid_math_bits_deBruijn64tab) :: rest) W) : tzGk (Hp.of W) := by
 have hg : Tryz.prog.globalNamed "math/bits.deBruijn64tab" = some 0 := by kernel_rfl
 have hT : Lib.TabIs Tryz.prog W "math/bits.deBruijn64tab" .u8 (Lib.deBruijn64tab.map Int.ofNat) :=
   Lib.tabIs_of_head (t:=185) (e:=5) (n:=64) hg (by kernel_rfl) (by kernel_rfl) (by kernel_rfl) (by kernel_rfl) (by kernel_rfl) h
 intro j hj
 rw [← Gs j hj]
 exact wR (hT.cell hg j (by simpa [Lib.deBruijn64tab] using hj))
end
end Go.Proofs.YtfldcmoebihobaaGreatDoor
namespace Go.Proofs.YtfldcmoebihobaaGreatDoor.liveLessFrame
set_option maxRecDepth 40000
open Go.ChangeShapes Go.WideShapes Go.ChangeAt Go.RowKit
theorem own:ownKnob Tryz.prog.godebug=none:=by kernel_rfl
theorem wj (H:Type) (enc:TypeId×Value→H) (W:World) (base:Nat) (args:Array Value) (ds gs:List (DataW H)) (before:List MemPlace)
    (hval:∀ (j:Nat) t v,Tryz.f4.params[j]? = some t→args[j]? = some v→Value.okWide Tryz.prog W .any base t v)
    (hW:DataW.Whole enc Tryz.prog Tryz.f4.params.toList Rows.liveLessSpec.vars false W args.toList ds gs before) (vt:List TypeId) (hwt:(DataW.weightsEach Tryz.prog (Tryz.f4.params.toList++vt) (ds++gs)).all (·≤reachBytes)=true) (hgk:tzGk (Hp.of W)) :
    Calls Tryz.prog 4 args W fun e W'=>∃ v,e = .returned v∧Rows.liveLessSpec.post enc Tryz.prog Tryz.f4 false true false false W args v W':=by
  have hW':=hW
  obtain ⟨p,q,hA0,hV,rfl,hfz,hnd⟩:=hW
  have hA:DataW.TrodAll enc Tryz.prog W 0 (fun _=>true) true Tryz.f4.params.toList args.toList ds p:=hA0
  rw [Tryz.params4] at hA hval hwt
  obtain ⟨v0,vs0,d0,ds0,p0,q0,hargs,rfl,rfl,h0,r0⟩:=trodAll_cons hA
  obtain ⟨v1,vs1,d1,ds1,p1,q1,rfl,rfl,rfl,h1,r1⟩:=trodAll_cons r0
  obtain ⟨v2,vs2,d2,ds2,p2,q2,rfl,rfl,rfl,h2,r2⟩:=trodAll_cons r1
  obtain ⟨rfl,rfl,rfl⟩:=trodAll_nil r2
  obtain rfl:args = #[v0,v1,v2]:=by cases args; simp_all
  refine (AS enc W base h0 h1 h2 (hval 0 _ v0 rfl rfl) (hval 1 _ v1 rfl rfl) (hval 2 _ v2 rfl rfl) hgk (gT _ _ hwt 0 _ _ rfl rfl) (gT _ _ hwt 1 _ _ rfl rfl) (gT _ _ hwt 2 _ _ rfl rfl)).mono fun e W' ⟨he,hb⟩=>?_
  subst he
  exact ⟨_,rfl,D3 (tb:=_) rfl hW' rfl rfl (by kernel_rfl) (by kernel_rfl) (of_decide_eq_true (by kernel_rfl)) hb⟩
noncomputable def zA (os:Os):World:=World.laidAll Tryz.prog os Rows.liveLessRow.laid
theorem tA (os:Os) {H:Type} (enc:TypeId×Value→H):∃ x,DataW.whole enc Tryz.prog ((zA os).forCall (fun _ _=>0) ⟨#[],#[.agg #[.int .i64 0,.int .i64 0,.slice none 0 0,.slice none 0 0,.slice none 0 0,.slice none 0 0,.slice none 0 0],.int .i64 0,.int .i64 0],[]⟩).memory Tryz.f4.params.toList Rows.liveLessSpec.vars false (#[.agg #[.int .i64 0,.int .i64 0,.slice none 0 0,.slice none 0 0,.slice none 0 0,.slice none 0 0,.slice none 0 0],.int .i64 0,.int .i64 0]:Array Value).toList 8=some x :=
  Option.isSome_iff_exists.1 (by kernel_rfl)
set_option maxRecDepth 100000 in
theorem Gp (os:Os) (started:os.Started) (H:Type) (enc:TypeId×Value→H) (F:Stop.Interp) :
    ReturnsInHanded {} Tryz.checked os 4 .any ((OpenSpec.ofChange Rows.liveLessSpec).preRow enc Tryz.prog Tryz.f4 Rows.liveLessRow.domain false Rows.liveLessRow.laid) (((OpenSpec.ofChange Rows.liveLessSpec).at F).post enc Tryz.prog Tryz.f4 false true false false):=by
  obtain ⟨x,hx⟩:=tA os enc
  refine returnsInHanded_of_row (C:=Tryz.checked) (s:=OpenSpec.ofChange Rows.liveLessSpec) own started (by kernel_rfl) Tryz.func4
    ⟨zA os,fun _ _=>0,⟨#[],#[.agg #[.int .i64 0,.int .i64 0,.slice none 0 0,.slice none 0 0,.slice none 0 0,.slice none 0 0,.slice none 0 0],.int .i64 0,.int .i64 0],[]⟩,World.laidAll_os _ _ _,World.shaped_of_ZipB (by kernel_rfl) (by kernel_rfl),rfl,(Input.okWide_of_okWideB (by kernel_rfl)).2,
      OpenSpec.preRow_of_cond 8 hx (by kernel_rfl) (fun k hk=>by cases hk) (by kernel_rfl) (by rw [MakeChecks.laidMetH_plain _ _ _ (by kernel_rfl)]; exact laidMet_laidAll _ (by kernel_rfl) (by kernel_rfl)),
      by simp only [Assume.holds]; exact ⟨by simp,by simp,by simp,by simp,by simp⟩⟩ ?_
  intro W base args ds gs before hval hW _ _ hwt hL _ _
  exact wj H enc W base args ds gs before hval hW _ hwt (El (rest:=[]) (by rw [MakeChecks.laidMetH_plain _ _ _ (by kernel_rfl)] at hL; exact hL))
theorem FV:Rows.LiveLessSaid :=
  OpenClaim.holds_of_cond 4 Tryz.f4 rfl rfl rfl rfl rfl rfl rfl ⟨rfl,rfl,rfl,rfl,rfl⟩ rfl rfl rfl rfl rfl (by kernel_rfl) Tryz.func4 (by kernel_rfl)
    (of_decide_eq_true (by kernel_rfl)) (by unfold Func.isWrapper; first | (rw [if_pos (by decide +kernel)]; kernel_rfl) | (rw [if_neg (by decide +kernel)]; exact ⟨rfl,rfl⟩))
    (fun os started H enc _ F=>by rw [OpenClaim.pre_eq_preRow]; exact Gp os started H enc F)
theorem card:Rows.LiveLessCardSaid :=
  Claim7.holds_tied_plain_at .later [] [.data] true (true, "d53b46bb7cc519e5492eeb0ed28eca8f6ae03e5ad12c6d83115bc880702ad24c") false FV (fun _ h => by cases h) (by kernel_rfl) (fun _ h => by cases h) liveLess_row_tie rfl ⟨rfl, rfl⟩ (by kernel_rfl) rfl
    (fun f fn hf hfn=>by
      obtain rfl : f = 4 := Option.some.inj ((show Tryz.prog.funcNamed "easement/easementlaw25.LiveLess" = some 4 by kernel_rfl).symm.trans hf) |>.symm
      obtain rfl:fn=Tryz.f4:=(Option.some.inj (Tryz.func4.symm.trans hfn)).symm
      exact ⟨by kernel_rfl,fun j t ht=>by
        rw [Tryz.params4] at ht
        have hm:t∈[30,3,3]:=by simpa using Array.mem_of_getElem? ht
        have hall:([30,3,3].all fun u=>!Tryz.prog.wantsStandIn u)=true:=by kernel_rfl
        exact (show Tryz.prog.wantsStandIn t=false by simpa using List.all_eq_true.1 hall t hm)⟩)
    (by kernel_rfl)
end Go.Proofs.YtfldcmoebihobaaGreatDoor.liveLessFrame
