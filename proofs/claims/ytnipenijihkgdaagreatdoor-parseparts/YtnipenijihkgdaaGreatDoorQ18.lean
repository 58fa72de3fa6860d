import Derived.Test.YtnipenijihkgdaaGreatDoorNd
import Derived.Test.YtnipenijihkgdaaGreatDoorJCkRead
import Derived.Test.YtnipenijihkgdaaGreatDoorQ4
import Derived.Deep.RegionHeld3
import Derived.Test.YtnipenijihkgdaaGreatDoorQ16
import Derived.Deep.QuietTactic
import Derived.BigQuiet
import Derived.WalkSmall
set_option maxHeartbeats 4000000
set_option maxRecDepth 100000
namespace Go.Proofs.YtnipenijihkgdaaGreatDoor
open Go.RowKit
set_option linter.unusedVariables false
def pf (p:Bool):Int→Int:=if p then id else fun _=>0
def eqv (p:Bool) (a b:Tree):Prop:=xU (pf p) a = xU (pf p) b
theorem yB {p:Bool} {a b:Tree} (h:eqv p a b):a.kind = b.kind∧(p = true→a.at_ = b.at_)∧a.text = b.text∧a.n = b.n∧a.kids.length = b.kids.length∧∀ (i:Nat) (x y:Tree),a.kids[i]? = some x→b.kids[i]? = some y→eqv p x y:=by
 obtain ⟨k,at1,tx,n,ks⟩:=a
 obtain ⟨k',at2,tx',n',ks'⟩:=b
 unfold eqv at h
 rw [dN0,dN0] at h
 injection h with h1 h2 h3 h4 h5
 refine ⟨h1,fun hp=>?_,h3,h4,?_,fun i x y hx hy=>?_⟩
 · subst hp; exact h2
 · have:=congrArg List.length h5; simpa using this
 have:=congrArg (·[i]?) h5
 simp only [List.getElem?_map,hx,hy,Option.map_some,Option.some.injEq] at this
 exact this
theorem wY (p:Bool) (a:Tree):eqv p a a:=rfl
def uT0 (w:World) (ka kb:Array Value) (m:Nat) (iv:Value) (wr:World):Prop:=∃ j:Nat,j≤m∧iv = .int .i64 (j:Int)∧Own wr w.heap.size ka 25∧Own wr (w.heap.size + 1) kb 25∧Below w.heap.size w wr
theorem oI {w wr:World} {ts:List Tree} {ao:Option Addr} {cap:Nat} (h:lK w (.slice ao ts.length cap) ts) (hb:Below w.heap.size w wr) (j:Nat) (t:Tree) (hj:ts[j]? = some t):∃ g o aj cj,ao = some ⟨g,o,none⟩∧g < w.heap.size∧wr.cell? ⟨g,o + j * 5,none⟩ = some (.int .u8 (t.kind:Int))∧wr.cell? ⟨g,o + j * 5 + 1,none⟩ = some (.int .i64 t.at_)∧wr.cell? ⟨g,o + j * 5 + 2,none⟩ = some (.string (bJ t.text))∧wr.cell? ⟨g,o + j * 5 + 3,none⟩ = some (.int .u64 (t.n:Int))∧wr.cell? ⟨g,o + j * 5 + 4,none⟩ = some (.slice aj t.kids.length cj)∧lK w (.slice aj t.kids.length cj) t.kids:=by
 obtain ⟨aq,cq,eq,_,_,hk4⟩:=h
 cases eq
 rcases hk4 with hk4 | ⟨g2,o2,cs2,fr2,rfl,hg2,hcr⟩
 · rw [hk4] at hj; simp at hj
 obtain ⟨aj,cj,d0,d1,d2,d3,d4,hkk⟩:=sR _ _ _ hcr j _ hj
 have hg2b:g2 < w.heap.size:=(Array.getElem?_eq_some_iff.1 hg2).1
 have hg2w:wr.heap[g2]? = some (.cells cs2 25 fr2):=(hb.block g2 hg2b).trans hg2
 exact ⟨g2,o2,aj,cj,rfl,hg2b,(cell_of_row _ g2 (o2 + j * 5) _ _ _ hg2w).trans d0,(cell_of_row _ g2 (o2 + j * 5 + 1) _ _ _ hg2w).trans d1,(cell_of_row _ g2 (o2 + j * 5 + 2) _ _ _ hg2w).trans d2,(cell_of_row _ g2 (o2 + j * 5 + 3) _ _ _ hg2w).trans d3,(cell_of_row _ g2 (o2 + j * 5 + 4) _ _ _ hg2w).trans d4,hkk⟩
theorem iT0 {ts:List Tree} {i:Nat} {t:Tree} (h:ts[i]? = some t):fD t≤fD.cntL ts:=by
 induction ts generalizing i with
 | nil=>simp at h
 | cons t0 ts ih=>?_
 rw [fD.cntL]
 cases i with
 | zero=>cases h; omega
 | succ i=>have:=ih h; omega
theorem pY0 (p:Bool):∀ (N:Nat) (a b:Tree),fD a≤N→eqv p a b→∀ (w:World) (k x:Int) (s:ByteArray) (n:Int) (v:Value) (k' x':Int) (s':ByteArray) (n':Int) (v':Value),lS w a k x s n v→lS w b k' x' s' n' v' →
    Calls Tryz.prog 24 #[.agg (nD k x s n v),.agg (nD k' x' s' n' v'),.bool p] w fun en w'=>en = .returned (.bool true)∧Below w.heap.size w w':=by
 intro N
 induction N with
 | zero=>intro a b h; rw [mO] at h; omega
 | succ N ih=>?_
 intro a b hN he w k x s n v k' x' s' n' v' ha hb
 have HI:Hid (∀ (a b:Tree),fD a≤N→eqv p a b→∀ (w:World) (k x:Int) (s:ByteArray) (n:Int) (v:Value) (k' x':Int) (s':ByteArray) (n':Int) (v':Value),lS w a k x s n v→lS w b k' x' s' n' v' →
  Calls Tryz.prog 24 #[.agg (nD k x s n v),.agg (nD k' x' s' n' v'),.bool p] w fun en w'=>en = .returned (.bool true)∧Below w.heap.size w w'):=ih
 clear ih
 obtain ⟨e1,e2,e3,e4,e5,e6⟩:=yB he
 obtain ⟨rfl,rfl,rfl,rfl,hka⟩:=ha
 obtain ⟨rfl,rfl,rfl,rfl,hkb⟩:=hb
 obtain ⟨ao,cap,rfl,_⟩:=id hka
 obtain ⟨bo,cap',rfl,_⟩:=id hkb
 rw [← e1,← e3,← e4]
 have HA:=hI hka
 have HB:=hI hkb
 have HE:=hI e6
 have HC:Hid (fD.cntL a.kids≤N):=by unfold Hid; rw [mO] at hN; omega
 have HL:=hI e5
 obtain ⟨m,hm⟩:=iQ (a.kids.length)
 have hmb:b.kids.length = m:=by rw [← e5,hm]
 rw [hm,hmb]
 have HM:=hI hm
 obtain ⟨kk,hkk⟩:∃ kk:Int,(a.kind:Int) = kk:=⟨_,rfl⟩
 obtain ⟨ss,hss⟩:=iQ (bJ a.text)
 obtain ⟨nn,hnn⟩:∃ nn:Int,(a.n:Int) = nn:=⟨_,rfl⟩
 obtain ⟨xa,hxa⟩:∃ xa:Int,a.at_ = xa:=⟨_,rfl⟩
 obtain ⟨xb,hxb⟩:∃ xb:Int,b.at_ = xb:=⟨_,rfl⟩
 have hpx:p = true→xa = xb:=fun hp=>by rw [← hxa,← hxb]; exact e2 hp
 rw [hkk,hss,hnn,hxa,hxb]
 have hmm:m≤9223372036854775807:=by obtain ⟨_,_,q,q1,q2,_⟩:=hka; cases q; omega
 clear he e1 e2 e3 e4 e5 e6 hka hkb hm hmb hkk hss hnn hxa hxb hN
 have hpp:(p && (xa != xb)) = false:=by
  cases p with
  | false=>rfl
  | true=>simp [hpx rfl]
 have hne:(xa != xb) = true→p = false:=by intro h; cases p with | false=>rfl | true=>rw [h] at hpp; cases hpp
 have o1:=(Own.new w (nD kk xa ss nn (.slice ao m cap)) 25).alloc (.cells (nD kk xb ss nn (.slice bo m cap')) 25)
 have o2:=Own.new (w.alloc (.cells (nD kk xa ss nn (.slice ao m cap)) 25)) (nD kk xb ss nn (.slice bo m cap')) 25
 rw [World.size_alloc] at o2
 have hb2:Below w.heap.size w ((w.alloc (.cells (nD kk xa ss nn (.slice ao m cap)) 25)).alloc (.cells (nD kk xb ss nn (.slice bo m cap')) 25)):=((Below.refl _ _).alloc (Nat.le_refl _) _).alloc (by rw [World.size_alloc]; omega) _
 have main:∀ q:Bool,(xa != xb) = q→Calls Tryz.prog 24 #[.agg (nD kk xa ss nn (.slice ao m cap)),.agg (nD kk xb ss nn (.slice bo m cap')),.bool p] w fun en w'=>en = .returned (.bool true)∧Below w.heap.size w w':=by
  intro q hq
  cases p
  all_goals
   cases q
   all_goals first
    | (exfalso; exact Bool.noConfusion (hne hq))
    | (
     clear hpp hne hpx
     go_enter Tryz.func24,Tryz.ntmps24
     go_wp2_with fail
     go_loopw [7] (fun iv wr=>uT0 w (nD kk xa ss nn (.slice ao m cap)) (nD kk xb ss nn (.slice bo m cap')) m iv wr) (fun iv _=>m - (intOf iv).toNat)
     case atStart=>exact ⟨0,Nat.zero_le _,rfl,o1,o2,hb2⟩
     case round =>
      clear o1 o2 hb2
      obtain ⟨j,hj,rfl,o1,o2,hb2⟩:=hrel
      obtain ⟨a0,a1,a2,a3,a4,af⟩:=o1.five
      obtain ⟨c0,c1,c2,c3,c4,cf⟩:=o2.five
      have hl1:=o1.lt
      have hl2:=o2.lt
      by_cases hjl:j < m
      · have hja:j < a.kids.length:=by rw [HM.out]; exact hjl
        have hjb:j < b.kids.length:=by rw [← HL.out]; exact hja
        obtain ⟨ta,hta⟩:∃ ta,a.kids[j]? = some ta:=⟨_,List.getElem?_eq_getElem hja⟩
        obtain ⟨tb,htb⟩:∃ tb,b.kids[j]? = some tb:=⟨_,List.getElem?_eq_getElem hjb⟩
        have HK1:=HA.out
        have HK2:=HB.out
        obtain ⟨g1,q1,aj,cj,rfl,hg1,f0,f1,f2,f3,f4,hk1⟩:=oI HK1 hb2 j ta hta
        obtain ⟨g2,q2,bj,dj,rfl,hg2,i0,i1,i2,i3,i4,hk2⟩:=oI HK2 hb2 j tb htb
        have hev:=HE.out j ta tb hta htb
        have hct:fD ta≤N:=Nat.le_trans (iT0 hta) HC.out
        have hsz:=hb2.size
        have CL:∀ W,Below w.heap.size w W→Calls Tryz.prog 24 #[.agg (nQ (ta.kind:Int) ta.at_ (bJ ta.text) (ta.n:Int) aj ta cj),.agg (nQ (tb.kind:Int) tb.at_ (bJ tb.text) (tb.n:Int) bj tb dj),_] W fun en w'=>en = .returned (.bool true)∧Below W.heap.size W w' :=
         fun W hW=>HI.out ta tb hct hev W _ _ _ _ _ _ _ _ _ _ ⟨rfl,rfl,rfl,rfl,hk1.below hW⟩ ⟨rfl,rfl,rfl,rfl,hk2.below hW⟩
        have hjq:(j:Int) < (m:Int):=by omega
        have hb2d:Below w.heap.size w wr.drew:=⟨hb2.os,hb2.tape,hb2.output,hb2.size,hb2.block⟩
        clear HK1 HK2 hk1 hk2 hev hct hta htb hja hjb
        go_wp2_with fail
        go_region_held3 (fun w'=>w'.cell? ⟨w.heap.size,4,none⟩ = some (.slice (some ⟨g1,q1,none⟩) m cap)∧w'.cell? ⟨w.heap.size + 1,4,none⟩ = some (.slice (some ⟨g2,q2,none⟩) m cap')∧w'.cell? ⟨g1,q1 + j * 5,none⟩ = some (.int .u8 (ta.kind:Int))∧w'.cell? ⟨g1,q1 + j * 5 + 1,none⟩ = some (.int .i64 ta.at_)∧w'.cell? ⟨g1,q1 + j * 5 + 2,none⟩ = some (.string (bJ ta.text))∧w'.cell? ⟨g1,q1 + j * 5 + 3,none⟩ = some (.int .u64 (ta.n:Int))∧w'.cell? ⟨g1,q1 + j * 5 + 4,none⟩ = some (.slice aj ta.kids.length cj)∧w'.cell? ⟨g2,q2 + j * 5,none⟩ = some (.int .u8 (tb.kind:Int))∧w'.cell? ⟨g2,q2 + j * 5 + 1,none⟩ = some (.int .i64 tb.at_)∧w'.cell? ⟨g2,q2 + j * 5 + 2,none⟩ = some (.string (bJ tb.text))∧w'.cell? ⟨g2,q2 + j * 5 + 3,none⟩ = some (.int .u64 (tb.n:Int))∧w'.cell? ⟨g2,q2 + j * 5 + 4,none⟩ = some (.slice bj tb.kids.length dj)) (go_keep) (first | (go_at_call 24; refine (CL _ hb2d).mono ?_; rintro en w7 ⟨rfl,hb7⟩; have o17:=o1.drew.below hb7; have o27:=o2.drew.below hb7; obtain ⟨r0,r1,r2,r3,r4,rf⟩:=o17.five; obtain ⟨z0,z1,z2,z3,z4,zf⟩:=o27.five; have tf0:=(hb7.cell (p:=⟨g1,q1 + j * 5,none⟩) (by rw [World.size_drew]; show g1 < _; omega)).trans f0; have tf1:=(hb7.cell (p:=⟨g1,q1 + j * 5 + 1,none⟩) (by rw [World.size_drew]; show g1 < _; omega)).trans f1; have tf2:=(hb7.cell (p:=⟨g1,q1 + j * 5 + 2,none⟩) (by rw [World.size_drew]; show g1 < _; omega)).trans f2; have tf3:=(hb7.cell (p:=⟨g1,q1 + j * 5 + 3,none⟩) (by rw [World.size_drew]; show g1 < _; omega)).trans f3; have tf4:=(hb7.cell (p:=⟨g1,q1 + j * 5 + 4,none⟩) (by rw [World.size_drew]; show g1 < _; omega)).trans f4; have ti0:=(hb7.cell (p:=⟨g2,q2 + j * 5,none⟩) (by rw [World.size_drew]; show g2 < _; omega)).trans i0; have ti1:=(hb7.cell (p:=⟨g2,q2 + j * 5 + 1,none⟩) (by rw [World.size_drew]; show g2 < _; omega)).trans i1; have ti2:=(hb7.cell (p:=⟨g2,q2 + j * 5 + 2,none⟩) (by rw [World.size_drew]; show g2 < _; omega)).trans i2; have ti3:=(hb7.cell (p:=⟨g2,q2 + j * 5 + 3,none⟩) (by rw [World.size_drew]; show g2 < _; omega)).trans i3; have ti4:=(hb7.cell (p:=⟨g2,q2 + j * 5 + 4,none⟩) (by rw [World.size_drew]; show g2 < _; omega)).trans i4))
        all_goals
         have hb8:Below w.heap.size w w7:=hb2d.trans (hb7.mono (by rw [World.size_drew]; exact hsz))
         go_wp2
         go_roundw
         case rel=>exact ⟨j + 1,by omega,by go_num,o17,o27,hb8⟩
         case measure=>simp [intOf]; omega
      have hjq:¬ ((j:Int) < (m:Int)):=by omega
      go_wp2
      go_ret
      exact ⟨rfl,hb2⟩)
 exact main _ rfl
theorem nW {a b:Tree} (he:eqv true a b) (w:World) (k x:Int) (s:ByteArray) (n:Int) (v:Value) (k' x':Int) (s':ByteArray) (n':Int) (v':Value) (ha:lS w a k x s n v) (hb:lS w b k' x' s' n' v') :
    Calls Tryz.prog 10 #[.agg (nD k x s n v),.agg (nD k' x' s' n' v')] w fun en w'=>en = .returned (.bool true)∧Below w.heap.size w w':=by
 have hxx:x = x':=by rw [ha.2.1,hb.2.1]; exact (yB he).2.1 rfl
 subst hxx
 obtain ⟨ao,cap,rfl,_⟩:=id ha.2.2.2.2
 obtain ⟨bo,cap',rfl,_⟩:=id hb.2.2.2.2
 have hb2:Below w.heap.size w ((w.alloc (.cells (nQ k x s n ao a cap) 25)).alloc (.cells (nQ k' x s' n' bo b cap') 25)):=((Below.refl _ _).alloc (Nat.le_refl _) _).alloc (by rw [World.size_alloc]; omega) _
 have CL:=pY0 true _ a b (Nat.le_refl _) he _ _ _ _ _ _ _ _ _ _ _ (ha.below hb2) (hb.below hb2)
 clear ha hb
 go_enter Tryz.func10,Tryz.ntmps10
 go_wp2_with fail
 refine CL.mono ?_
 rintro en w1 ⟨rfl,hb3⟩
 go_wp2
 go_ret
 exact ⟨rfl,hb2.trans (hb3.mono hb2.size)⟩
theorem zM (x:Int):IntKind.i64.wrap x = wrap64 x:=by rw [IntKind.wrap_i64]; unfold wrap64; first | rfl | omega
theorem rX0 {E:Nat} {s:St} {L:List Tok} {a:Nat} (h:s.rest = L.drop a) (i:Nat) (hlt:a + i < L.length):bE E s i = L.getD (a + i) default:=by
 unfold bE
 rw [h,List.getD_eq_getElem?_getD,List.getD_eq_getElem?_getD,List.getElem?_drop,List.getElem?_eq_getElem hlt]
 rfl
theorem aE0 {E:Nat} {s:St} {L:List Tok} {a:Nat} (h:s.rest = L.drop a) (i:Nat) (hlt:¬ a + i < L.length):bE E s i = (0,[],0,E,0):=by
 unfold bE
 rw [h,List.getD_eq_getElem?_getD,List.getElem?_drop,List.getElem?_eq_none (by omega)]
 rfl
theorem gS {E:Nat} {s:St} (h:s.rest = []) (i:Nat):bE E s i = (0,[],0,E,0):=by
 unfold bE
 rw [h]
 simp
def wD (L:List Tok) (a E:Nat):Nat:=if a < L.length then (L.getD a default).2.2.2.1 else E
theorem vU {E:Nat} {s:St} {L:List Tok} {a:Nat} (h:s.rest = L.drop a):wD L a E = (nxt E s).2.2.2.1:=by
 unfold wD
 split
 · rename_i hlt
   rw [show nxt E s = bE E s 0 from rfl,rX0 h 0 (by omega),Nat.add_zero]
 rename_i hlt
 rw [show nxt E s = bE E s 0 from rfl,aE0 h 0 (by omega)]
theorem uS {w:World} {r E a:Nat} {v:Value} {L:List Tok} {dd no pl:Int} (ho:Own w r #[v,.int .i64 (a:Int),.int .i64 (E:Int),.int .i64 dd,.int .i64 no,.int .i64 pl] 61) (ht:iH w r v L) (x:Nat) (hx:wD L a E = x):Calls Tryz.prog 85 #[.pointer (some ⟨r,0,none⟩)] w fun en w'=>en = .returned (.int .i64 (x:Int))∧Below w.heap.size w w':=by
 obtain ⟨ao,cap,rfl,hlc,hcap,hlen,hgood,h4⟩:=ht
 obtain ⟨c0,c1,c2,c3,c4,c5,f0⟩:=ho.six
 have hrb:=ho.lt
 have HX:=hI hx
 obtain ⟨m,hm⟩:∃ m,Hid (L.length = m):=⟨_,rfl⟩
 by_cases hlt:a < L.length
 · rcases h4 with h4 | ⟨g,o,cs,fr,rfl,hgr,hg,hc⟩
   · rw [h4] at hlt; simp at hlt
   obtain ⟨k,b,n,aa,e,ht⟩:=bZ (L.getD a default)
   obtain ⟨a0,a1,a2,a3,a4⟩:=qZ hg hc a hlt ht
   have haa:aa = (x:Int):=by rw [ht.2.2.2.1,← HX.out]; unfold wD; rw [if_pos hlt]
   rw [haa] at a3
   rw [hm.out] at c0 hlt hlc hlen
   have hgb:g < w.heap.size:=(Array.getElem?_eq_some_iff.1 hg).1
   have i1:(0:Int)≤(a:Int):=by omega
   have i2:(a:Int) < (m:Int):=by omega
   clear ho hg hc ht hgood c2 c3 c4 c5 haa hx HX hm a0 a1 a2 a4
   go_enter Tryz.func85,Tryz.ntmps85
   go_wp2_with fail
   go_quiet (fail)
   go_wp2_with fail
   go_quiet (fail)
   go_wp2
   go_ret
   exact ⟨rfl,below_drewN (below_drewN (Below.refl _ _) _) _⟩
 have hEx:(E:Int) = (x:Int):=by rw [← HX.out]; unfold wD; rw [if_neg hlt]
 rw [hEx] at c2
 rw [hm.out] at c0 hlt
 have i2:¬ (a:Int) < (m:Int):=by omega
 clear ho h4 hgood c3 c4 c5 hx HX hEx hm
 go_enter Tryz.func85,Tryz.ntmps85
 go_wp2_with fail
 go_quiet (fail)
 go_wp2
 go_ret
 exact ⟨rfl,below_drewN (Below.refl _ _) _⟩
theorem bU {w:World} {r E d:Nat} {s:St} (HR:Hid (ZAt w r E d s)):Calls Tryz.prog 85 #[.pointer (some ⟨r,0,none⟩)] w fun en w'=>(∃ x:Nat,en = .returned (.int .i64 (x:Int))∧(s.wrong = 0→x = (nxt E s).2.2.2.1))∧Below w.heap.size w w':=by
 obtain ⟨v,L,a,dd,pl,ho,ht,hwf,ha,hs⟩:=HR.out
 refine (uS ho ht _ rfl).mono ?_
 rintro en w' ⟨rfl,hb⟩
 refine ⟨⟨_,rfl,fun h0=>?_⟩,hb⟩
 rcases hs with hs | hs
 · exact vU hs.2.1
 exact absurd h0 hs.1
theorem fI {w:World} {r E d:Nat} {s:St} (HR:Hid (ZAt w r E d s)) (y:Int) (e:Nat) (hy:y = (e:Int)) (he:e ≠ 0):Calls Tryz.prog 42 #[.pointer (some ⟨r,0,none⟩),.int .i64 y] w fun en w'=>(∃ v,en = .returned v)∧ZAt w' r E d (eO (nxt E s).2.2.2.1 e s)∧Kp r w w':=by
 subst hy
 obtain ⟨v,L,a,dd,pl,ho,ht,hwf,ha,hs⟩:=HR.out
 obtain ⟨c0,c1,c2,c3,c4,c5,f0⟩:=ho.six
 have hrb:=ho.lt
 rcases hs with hs | hs
 · have o1:Own (w.setCell ⟨r,4,none⟩ (.int .i64 (e:Int))) r #[v,.int .i64 (a:Int),.int .i64 (E:Int),.int .i64 dd,.int .i64 (e:Int),.int .i64 pl] 61:=ho.set 4 _
   have t1:iH (w.setCell ⟨r,4,none⟩ (.int .i64 (e:Int))) r v L:=ht.on fun g hg=>Below.heap_setCell w ⟨r,4,none⟩ _ g (by show g ≠ r; omega)
   have CC:=uS o1 t1 _ rfl
   rw [vU (E:=E) hs.2.1] at CC
   obtain ⟨x,hx⟩:=iQ ((nxt E s).2.2.2.1)
   rw [hx] at CC ⊢
   have k1:Kp r w (w.setCell ⟨r,4,none⟩ (.int .i64 (e:Int))):=(Kp.refl r w).set (.inr rfl) 4 _
   have HF:Hid (eO x e s = ⟨[],e,x⟩):=by unfold Hid eO; rw [if_pos hs.1]
   have HE:=hI he
   rw [hs.1] at c4
   clear hx hs ho ht he
   go_enter Tryz.func42,Tryz.ntmps42
   go_wp2_with fail
   refine CC.mono ?_
   rintro en w1 ⟨rfl,hb⟩
   have o2:=o1.below hb
   have t2:=t1.on fun g hg=>hb.block g (Nat.lt_trans hg o1.lt)
   obtain ⟨d0,d1,d2,d3,d4,d5,g0⟩:=o2.six
   have hl2:=o2.lt
   have k2:=k1.trans (Kp.of hb)
   clear CC o1 t1 c0 c1 c2 c3 c4 c5
   go_wp2
   refine bodyPost_end (results_none rfl _ _ _) rfl ?_
   refine ⟨⟨_,rfl⟩,?_,k2.set (.inr rfl) 5 _⟩
   rw [HF.out]
   exact ⟨v,L,a,dd,(x:Int),o2.set 5 _,t2.on fun g hg=>Below.heap_setCell w1 ⟨r,5,none⟩ _ g (by show g ≠ r; omega),hwf,ha,.inr ⟨HE.out,rfl,rfl⟩⟩
 have HF:Hid (eO (nxt E s).2.2.2.1 e s = s):=gM hs.1
 have hf:((s.wrong:Int) == 0) = false:=by have:=hs.1; simp; omega
 generalize (s.wrong:Int) = q at c4 hf
 clear ho ht hwf ha hs
 go_enter Tryz.func42,Tryz.ntmps42
 go_wp2
 refine bodyPost_end (results_none rfl _ _ _) rfl ?_
 exact ⟨⟨_,rfl⟩,by rw [HF.out]; exact HR.out,Kp.refl r w⟩
def nY (E:Nat) (s:St) (i:Nat) (k:Int) (b:ByteArray) (n a:Int):Prop:=k = ((bE E s i).1:Int)∧b = bJ (bE E s i).2.1∧n = ((bE E s i).2.2.1:Int)∧(k ≠ 0→a = ((bE E s i).2.2.2.1:Int))
theorem fP {w:World} {r E d:Nat} {s:St} (HR:Hid (ZAt w r E d s)) (z:Int) (i:Nat) (hz:z = (i:Int)) (hi:i≤4):Calls Tryz.prog 92 #[.pointer (some ⟨r,0,none⟩),.int .i64 z] w fun en w'=>(∃ k b n a e,en = .returned (.agg #[.int .u8 k,.string b,.int .u64 n,.int .i64 a,.int .i64 e])∧nY E s i k b n a)∧Below w.heap.size w w':=by
 subst hz
 obtain ⟨v,L,a,dd,pl,ho,⟨ao,cap,rfl,hlc,hcap,hlen,hgood,h4⟩,hwf,ha,hs⟩:=HR.out
 obtain ⟨c0,c1,c2,c3,c4,c5,f0⟩:=ho.six
 have hrb:=ho.lt
 obtain ⟨m,hm⟩:∃ m,Hid (L.length = m):=⟨_,rfl⟩
 rcases hs with hs | hs
 · obtain ⟨hw0,hrest,_,_⟩:=hs
   rw [hw0] at c4
   by_cases hlt:a + i < L.length
   · rcases h4 with h4 | ⟨g,o,cs,fr,rfl,hgr,hg,hc⟩
     · rw [h4] at hlt; simp at hlt
     obtain ⟨k,b,n,aa,e,ht⟩:=bZ (L.getD (a + i) default)
     obtain ⟨a0,a1,a2,a3,a4⟩:=qZ hg hc (a + i) hlt ht
     have hx:Hid (nY E s i k b n aa):=by
      unfold Hid nY
      rw [rX0 hrest i hlt]
      exact ⟨ht.1,ht.2.1,ht.2.2.1,fun _=>ht.2.2.2.1⟩
     rw [hm.out] at c0 hlt hlc hlen
     have hgb:g < w.heap.size:=(Array.getElem?_eq_some_iff.1 hg).1
     have i1:(0:Int)≤(a:Int) + (i:Int):=by omega
     have i2:¬ ((m:Int)≤(a:Int) + (i:Int)):=by omega
     have i3:(a:Int) + (i:Int) < (m:Int):=by omega
     have i4:wrap64 ((a:Int) + (i:Int)) = ((a + i:Nat):Int):=by rw [IntWalk.wrap64_in _ ⟨by omega,by omega⟩]; omega
     obtain ⟨q,hq⟩:∃ q:Nat,a + i = q:=⟨_,rfl⟩
     rw [hq] at i4 a0 a1 a2 a3 a4
     have i5:IntKind.i64.wrap ((a:Int) + (i:Int)) = (q:Int):=(zM _).trans i4
     have c6:w.cell? ⟨r,4,none⟩ = some (.int .i64 0):=c4
     have j4:decide ((m:Int)≤(q:Int)) = false:=by simp; omega
     have j1:(0:Int)≤(q:Int):=by omega
     have j2:(q:Int) < (m:Int):=by omega
     have j3:¬ ((m:Int)≤(q:Int)):=by omega
     clear ho hg hc ht hgood hwf ha hw0 hrest i1 i2 i3 hq c4
     go_enter Tryz.func92,Tryz.ntmps92
     go_wp2_with fail
     go_quiet (fail)
     go_wp2_with fail
     go_region
     go_wp2
     refine aC (t:=65) rfl rfl rfl (Own.set5 (show Own ((w.alloc (.cells #[.int .u8 0, .string ⟨#[]⟩, .int .u64 0, .int .i64 0, .int .i64 0] 65)).drewN _) w.heap.size #[.int .u8 0, .string ⟨#[]⟩, .int .u64 0, .int .i64 0, .int .i64 0] 65 from Own.new w _ _) _ _ _ _ _) Tryz.underlying65 rfl (by kernel_rfl) ?_
     exact ⟨⟨_,_,_,_,_,rfl,hx.out⟩,cA (below_drewN ((Below.refl _ _).alloc (Nat.le_refl _) _) _) (Nat.le_refl _)⟩
   have hx:Hid (nY E s i 0 ⟨#[]⟩ 0 0):=by
    unfold Hid nY
    rw [aE0 hrest i hlt]
    exact ⟨rfl,rfl,rfl,fun h=>absurd rfl h⟩
   rw [hm.out] at c0 hlt
   have i4:wrap64 ((a:Int) + (i:Int)) = ((a + i:Nat):Int):=by rw [IntWalk.wrap64_in _ ⟨by omega,by omega⟩]; omega
   obtain ⟨q,hq⟩:∃ q:Nat,a + i = q:=⟨_,rfl⟩
   rw [hq] at i4
   have i5:IntKind.i64.wrap ((a:Int) + (i:Int)) = (q:Int):=(zM _).trans i4
   have c6:w.cell? ⟨r,4,none⟩ = some (.int .i64 0):=c4
   have j4:decide ((m:Int)≤(q:Int)) = true:=by simp; omega
   have j3:(m:Int)≤(q:Int):=by omega
   clear ho h4 hgood hwf ha hw0 hrest hq c4
   go_enter Tryz.func92,Tryz.ntmps92
   go_wp2_with fail
   go_quiet (fail)
   go_wp2
   refine aC (t:=65) rfl rfl rfl (Own.set5 (show Own ((w.alloc (.cells #[.int .u8 0, .string ⟨#[]⟩, .int .u64 0, .int .i64 0, .int .i64 0] 65)).drewN _) w.heap.size #[.int .u8 0, .string ⟨#[]⟩, .int .u64 0, .int .i64 0, .int .i64 0] 65 from Own.new w _ _) _ _ _ _ _) Tryz.underlying65 rfl (by kernel_rfl) ?_
   exact ⟨⟨_,_,_,_,_,rfl,hx.out⟩,cA (below_drewN ((Below.refl _ _).alloc (Nat.le_refl _) _) _) (Nat.le_refl _)⟩
 have hx:Hid (nY E s i 0 ⟨#[]⟩ 0 0):=by
  unfold Hid nY
  rw [gS hs.2.1 i]
  exact ⟨rfl,rfl,rfl,fun h=>absurd rfl h⟩
 have hne:((s.wrong:Int) != 0) = true:=by have:=hs.1; simp; omega
 generalize (s.wrong:Int) = no at c4 hne
 clear ho h4 hgood hwf ha hs c0 c1 c2 c3 c5 hlc hcap hlen
 go_enter Tryz.func92,Tryz.ntmps92
 go_wp2_with fail
 go_quiet (fail)
 go_wp2
 refine aC (t:=65) rfl rfl rfl (Own.set5 (show Own ((w.alloc (.cells #[.int .u8 0, .string ⟨#[]⟩, .int .u64 0, .int .i64 0, .int .i64 0] 65)).drewN _) w.heap.size #[.int .u8 0, .string ⟨#[]⟩, .int .u64 0, .int .i64 0, .int .i64 0] 65 from Own.new w _ _) _ _ _ _ _) Tryz.underlying65 rfl (by kernel_rfl) ?_
 exact ⟨⟨_,_,_,_,_,rfl,hx.out⟩,cA (below_drewN ((Below.refl _ _).alloc (Nat.le_refl _) _) _) (Nat.le_refl _)⟩
end Go.Proofs.YtnipenijihkgdaaGreatDoor
