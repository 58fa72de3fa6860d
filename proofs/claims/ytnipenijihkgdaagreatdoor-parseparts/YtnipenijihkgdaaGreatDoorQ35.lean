import Derived.Test.YtnipenijihkgdaaGreatDoorNd
import Derived.Test.YtnipenijihkgdaaGreatDoorQ34
import Derived.Test.YtnipenijihkgdaaGreatDoorQ26
import Derived.Test.YtnipenijihkgdaaGreatDoorQ4
import Derived.Deep.QuietTactic
import Derived.BigQuiet
import Derived.Laws.AppendOwnNone
set_option maxHeartbeats 1000000
set_option maxRecDepth 100000
namespace Go.Proofs.YtnipenijihkgdaaGreatDoor
open Go.RowKit
set_option linter.unusedVariables false
theorem jF0 {F G:List Nat} {R1 R2:Nat→Prop} (hF:F.Nodup) (hG:G.Nodup) (h1:∀ g ∈ F,R1 g) (h2:∀ g ∈ G,R2 g) (hd:∀ g,R1 g→R2 g→False):(F ++ G).Nodup:=by
 rw [List.nodup_append]
 exact ⟨hF,hG,fun a ha b hb e=>hd a (h1 a ha) (by rw [e]; exact h2 b hb)⟩
theorem xD (W:World) (ty:TypeId) (R1 R2 R:Nat→Prop) (v:Value) (ts:List Tree) (hrow0:bK W R1 v ts) (us:List Tree) (m c:Nat) (hm:us.length = m)
    (b o:Nat) (cs:Array Value) (hA:∀ j u,cs.toList[j]? = some u→W.cell? ⟨b,o + j,none⟩ = some u) (hcs:∃ F,bF W us cs.toList F∧F.Nodup∧(∀ g ∈ F,R2 g))
    (hdis:∀ g,R1 g→R2 g→False) (hR1:∀ g,g < W.heap.size→R1 g→R g) (hR2:∀ g,g < W.heap.size→R2 g→R g) (hQ:R W.heap.size) (h63:ts.length + m≤1000000000) :
    ∃ v' w',(Builtin.append_ #[23,23] ty #[v,.slice (some ⟨b,o,none⟩) m c]).run Tryz.prog W = .ok v' w'∧bK w' R v' (ts ++ us)∧W.grownBy w' v.ownBlock∧(∀ k,v.ownBlock = some k→R1 k∧k < W.heap.size):=by
 obtain ⟨i8,hi,hz0,hz1,hz2⟩:=dS tI
 obtain ⟨xs,F1,hown,hc,hn,hF,hne,hkq⟩:=hrow0.own
 obtain ⟨F,k1,k2,k3⟩:=hcs
 have k4:∀ g ∈ F,some g ≠ v.ownBlock:=fun g hg e=>hdis g (hkq g e.symm) (k3 g hg)
 have hA':∀ j u,cs.toList[j]? = some u→W.cell? ((⟨b,o,none⟩:Addr).add j) = some u:=by
  intro j u hu
  have hadd:(⟨b,o,none⟩:Addr).add j = ⟨b,o + j,none⟩:=by unfold Addr.add; split <;> simp_all
  rw [hadd]; exact hA j u hu
 obtain ⟨v',w',hr,h1,h2,_,h4⟩:=run_append_own_at (P:=Tryz.prog) W 0 23 ty 25 i8 _ 5 64 Tryz.underlying23 hi hz0 hz1 hz2 rfl (by omega) v ts.length xs hown ⟨b,o,none⟩ m c cs.toList (by rw [bF.length _ _ _ k1,hm]) hA' (yW _ _ _ k1) (by unfold maxLen; omega) (by omega) (Nat.zero_le _)
 have e:ts.length + m = (ts ++ us).length:=by rw [List.length_append,hm]
 rw [e] at h1
 have hk:∀ g,g < W.heap.size→some g ≠ v.ownBlock→∀ cur,Own W g cur 25→Own w' g cur 25:=fun g hg hne cur ho=>(h2.block g hg hne).trans ho
 have hlt1:=bF.lt _ _ _ hc
 have hlt2:=bF.lt _ _ _ k1
 refine ⟨v',w',hr,cN0 h1 (bF.append _ _ _ (bF.on _ _ _ hc fun g hg=>hk g (hlt1 g hg) (hne g hg)) _ _ _ (bF.on _ _ _ k1 fun g hg=>hk g (hlt2 g hg) (k4 g hg))) (jF0 hn k2 hF k3 hdis) ?_ ?_ ?_,h2,fun k hk=>⟨hkq k hk,(hown.lt k hk).2⟩⟩
 · intro g hg
   rcases List.mem_append.1 hg with hg | hg
   · exact hR1 g (hlt1 g hg) (hF g hg)
   exact hR2 g (hlt2 g hg) (k3 g hg)
 · intro g hg e'
   have hcases:some g ≠ v.ownBlock∧g < W.heap.size:=by
    rcases List.mem_append.1 hg with hg | hg
    · exact ⟨hne g hg,hlt1 g hg⟩
    exact ⟨k4 g hg,hlt2 g hg⟩
   rcases h4 with h4 | h4
   · exact hcases.1 (e'.trans h4)
   rw [h4] at e'
   have:=Option.some.inj e'
   omega
 intro k hk
 rcases h4 with h4 | h4
 · have e2:=h4.symm.trans hk
   exact hR1 k (hown.lt k e2).2 (hkq k e2)
 rw [h4] at hk
 rw [← Option.some.inj hk]; exact hQ
theorem bK.shapeZ {w:World} {Q:Nat→Prop} {v:Value} {ts:List Tree} (h:bK w Q v ts):∃ ao cap,v = .slice ao ts.length cap:=(bK.row (B:=0) (h.imp fun g _ _=>Nat.zero_le g)).shape
theorem cT {W:World} {ops:Array Oper} {rest:List Oper} {o:Oper} {a:Act} {Q:Exit→Act→World→Prop} (hgd:o.guard = none) (s x:Operand)
    (ho:o.op = .call { callee:=.builtin .append,args:=#[s,x],argTypes:=#[23,23] })
    (R1 R2 R:Nat→Prop) (v:Value) (ts:List Tree) (hs:a.eval s = v) (hrow:bK W R1 v ts) (t:Tree) (k x1:Int) (b1:ByteArray) (n1:Int) (v1:Value)
    (b:Nat) (hx:a.eval x = .slice (some ⟨b,0,none⟩) 1 1) (hb:Own W b (nD k x1 b1 n1 v1) 25) (hcs:aZ W R2 t k x1 b1 n1 v1)
    (hdis:∀ g,R1 g→R2 g→False) (hR1:∀ g,g < W.heap.size→R1 g→R g) (hR2:∀ g,g < W.heap.size→R2 g→R g) (hQ:R W.heap.size) (h63:ts.length + 1≤1000000000)
    (h:∀ ao cap w',bK w' R (.slice ao (ts ++ [t]).length cap) (ts ++ [t])→W.grownBy w' v.ownBlock→(∀ k,v.ownBlock = some k→R1 k∧k < W.heap.size)→wpList Tryz.prog ops Q rest (a.put o.dst (.slice ao (ts ++ [t]).length cap)) w') :
    wpList Tryz.prog ops Q (o :: rest) a W:=by
 obtain ⟨v',w',hr,h1,h2,h3⟩:=xD W o.type R1 R2 R v ts hrow [t] 1 1 rfl b 0 (nD k x1 b1 n1 v1) (fun j u hu=>by rw [Nat.zero_add,cell_of_row _ b j _ 25 _ hb]; simpa using hu) hcs.cells hdis hR1 hR2 hQ h63
 have hsh:∃ ao cap,v' = .slice ao (ts ++ [t]).length cap:=by
  obtain ⟨ys,G0,G1,g1,_⟩:=h1
  rcases g1.2 with ⟨rfl,h0,_⟩ | ⟨g,cap,cur,rfl,_⟩
  · exact ⟨none,0,by rw [h0]⟩
  exact ⟨_,_,rfl⟩
 obtain ⟨ao,cap,rfl⟩:=hsh
 refine wpList_plain hgd fun K hK=>?_
 unfold Oper.wp execOp
 simp only [ho,resolve,invoke,builtin,Sem.run_bind,Sem.run_pure,Result.andThen_ok,List.map_toArray,List.map_cons,List.map_nil,hs,hx,hr]
 exact hK _ _ (h ao cap w' h1 h2 h3)
theorem vO {W:World} {ops:Array Oper} {rest:List Oper} {o:Oper} {a:Act} {Q:Exit→Act→World→Prop} (hgd:o.guard = none) (s x:Operand)
    (ho:o.op = .call { callee:=.builtin .append,args:=#[s,x],argTypes:=#[23,23] })
    (R1 R2 R:Nat→Prop) (v:Value) (ts:List Tree) (hs:a.eval s = v) (hrow:bK W R1 v ts) (us:List Tree) (u:Value) (hx:a.eval x = u) (hu:bK W R2 u us)
    (hdis:∀ g,R1 g→R2 g→False) (hR1:∀ g,g < W.heap.size→R1 g→R g) (hR2:∀ g,g < W.heap.size→R2 g→R g) (hQ:R W.heap.size) (h63:ts.length + us.length≤1000000000)
    (h:∀ ao cap w',bK w' R (.slice ao (ts ++ us).length cap) (ts ++ us)→W.grownBy w' v.ownBlock→(∀ k,v.ownBlock = some k→R1 k∧k < W.heap.size)→wpList Tryz.prog ops Q rest (a.put o.dst (.slice ao (ts ++ us).length cap)) w') :
    wpList Tryz.prog ops Q (o :: rest) a W:=by
 obtain ⟨xs,F0,F1,h1,h2,h3,h4⟩:=hu
 rcases h1.2 with ⟨rfl,h0,_⟩ | ⟨g,cap,cur,rfl,hF,hg,r1,r2,r3,r4⟩
 · obtain rfl:us = []:=List.eq_nil_of_length_eq_zero h0
   obtain ⟨i8,hi,hz0,hz1,hz2⟩:=dS tI
   obtain ⟨ys,G1,hown,hc0,hn,hG,hne,hkq⟩:=hrow.own
   refine wpList_append_own_none hgd s x 23 ho 0 25 i8 5 Tryz.underlying23 hi v ts.length ys hs hown hx ?_
   obtain ⟨ao,cap,rfl⟩:=hrow.shapeZ
   have h9:=h ao cap W (by rw [List.append_nil]; exact hrow.imp hR1) ⟨rfl,rfl,rfl,Nat.le_refl _,fun _ _ _=>rfl⟩ (fun k hk=>⟨hkq k hk,(hown.lt k hk).2⟩)
   rw [List.append_nil] at h9
   exact h9
 subst hF
 rw [List.nodup_append] at h3
 obtain ⟨v',w',hr,q1,q2,q3⟩:=xD W o.type R1 R2 R v ts hrow us us.length cap rfl g 0 xs.toArray (fun j y hy=>by
  rw [Nat.zero_add,cell_of_row _ g j _ 25 _ hg]
  have hy':xs[j]? = some y:=by simpa using hy
  rw [← r4,List.getElem?_take] at hy'
  split at hy'
  · simpa using hy'
  cases hy') ⟨F1,by simpa using h2,h3.2.1,fun g' hg'=>h4 g' (by simp [hg'])⟩ hdis hR1 hR2 hQ h63
 have hsh:∃ ao cap,v' = .slice ao (ts ++ us).length cap:=q1.shapeZ
 obtain ⟨ao,cap,rfl⟩:=hsh
 refine wpList_plain hgd fun K hK=>?_
 unfold Oper.wp execOp
 simp only [ho,resolve,invoke,builtin,Sem.run_bind,Sem.run_pure,Result.andThen_ok,List.map_toArray,List.map_cons,List.map_nil,hs,hx,hr]
 exact hK _ _ (h ao cap w' q1 q2 q3)
theorem kM {W:World} {ops:Array Oper} {rest:List Oper} {o:Oper} {a:Act} {Q:Exit→Act→World→Prop} (hgd:o.guard = none) (x y:Operand) (ho:o.op = .store 3 x y) (hdst:o.dst = none) (g i:Nat) (hx:a.eval x = .pointer (some ⟨g,i,none⟩))
    {z:Int} (hy:a.eval y = (.int .i64 z)) {cs:Array Value} {t:TypeId} (hown:Own W g cs t) (hi:i < cs.size)
    (h:∀ w',Own w' g (cs.setIfInBounds i (.int .i64 z)) t→W.grownBy w' (some g)→wpList Tryz.prog ops Q rest a w'):wpList Tryz.prog ops Q (o :: rest) a W:=by
 have s0:=hown.set i (.int .i64 z)
 have hgr:W.grownBy (W.setCell ⟨g,i,none⟩ (.int .i64 z)) (some g):=(Kp.refl g W).set (.inr rfl) i (.int .i64 z)
 have hc:W.cell? ⟨g,i,none⟩ = some cs[i]:=by rw [cell_of_row _ g i _ _ _ hown]; exact Array.getElem?_eq_getElem hi
 have hf:W.frozen? ⟨g,i,none⟩ = false:=by unfold Own at hown; simp [World.frozen?,hown]
 refine wpList_plain hgd fun K hK=>?_
 unfold Oper.wp execOp
 simp only [ho,hx,hy]
 simp [go_sem,hc,hf,hdst]
 exact hK _ _ (h _ s0 hgr)
def dZ (w2:World):Type:={ w':World // Below w2.heap.size w2 w' }
theorem kB0 {w2 w':World} (h:Below w2.heap.size w2 w'):∃ t:dZ w2,w' = t.1:=⟨⟨w',h⟩,rfl⟩
theorem gQ {w2:World} {f:FuncId} {args:Array Value} {v:Value} (t:dZ w2) (h:Calls Tryz.prog f args t.1 fun e w'=>e = .returned v∧Below t.1.heap.size t.1 w') :
    Calls Tryz.prog f args t.1 fun e w''=>e = .returned v∧∃ t':dZ w2,w'' = t'.1 :=
 h.mono fun _ w' ⟨he,hb⟩=>⟨he,⟨w',t.2.trans (hb.mono t.2.size)⟩,rfl⟩
theorem cC {id:Nat} {Q:Exit→Act→World→Prop} {a:Act} {w:World} {l:List Oper} (hm:Tryz.prog.follows .mixedOrders = true) (hB:Region.lexB .any l.toArray = true)
    (h:wpQuiet Tryz.prog l.toArray (fun w'=>∃ t:dZ w,w' = t.1) (fun a'=>∀ w',(∃ t:dZ w,w' = t.1)→Q .normal a' w') l a):(Code.region id l.toArray true).wp Tryz.prog Q a w :=
 wp_region_quiet (C:=fun w'=>∃ t:dZ w,w' = t.1) hm hB (kB0 ⟨rfl,rfl,rfl,Nat.le_refl _,fun _ _=>rfl⟩) (by simpa using h)
theorem ZAt.wrongc {w:World} {r E d:Nat} {s:St} (h:ZAt w r E d s):w.cell? ⟨r,4,none⟩ = some (.int .i64 (s.wrong:Int)):=by
 obtain ⟨v,L,a,dd,pl,ho,_⟩:=h
 exact ho.six.2.2.2.2.1
theorem aZ.leaf (w:World) (Q:Nat→Prop) (kd:Nat) (x:Int) (tx:List Nat) (n:Nat):aZ w Q ⟨kd,x,tx,n,[]⟩ (kd:Int) x (bJ tx) (n:Int) (.slice none 0 0):=⟨rfl,rfl,rfl,rfl,(bK.imp (Row.nil w w.heap.size).q fun g h1 h2=>absurd h1 (by omega))⟩
theorem fR {q:Tok→Bool} {E d:Nat} {s s':St} {t:Tok} {b:Bool} (h:cZ q E d s = some (t,s')) (hb:q (nxt E s) = b):(if b = true then aS s else bD E s) = s'∧(s'.wrong = 0→s.wrong = 0∧b = true∧t = nxt E s):=by
 rcases cU h with ⟨e1,e2,e3⟩ | ⟨e1,_,e3⟩
 · rw [hb] at e1
   subst e1 e3
   exact ⟨rfl,fun h0=>⟨h0,rfl,e2⟩⟩
 rw [hb] at e1
 subst e1 e3
 exact ⟨rfl,fun h0=>absurd h0 bS⟩
theorem uG (E:Nat) (s:St) (i:Nat):bE E (aS s) i = bE E s (i + 1):=by
 unfold bE aS
 cases s.rest with
 | nil=>simp
 | cons t r=>simp
theorem fW {x:List Nat} {t:Tok} (h:wd x t = true):t.1 = 1∧t.2.1 = x:=by simpa only [wd,Bool.and_eq_true,beq_iff_eq] using h
theorem nO0 {x:List Nat} {t:Tok} (h:sg x t = true):t.1 = 4∧t.2.1 = x:=by simpa only [sg,Bool.and_eq_true,beq_iff_eq] using h
theorem mN {x:List Nat} {t:Tok} (h:nm t = true) (hx:jZ x = false):wd x t = false:=by
 simp only [nm,Bool.and_eq_true,beq_iff_eq] at h
 unfold wd
 cases hb:(t.2.1 == x) with
 | false=>simp
 | true=>?_
 have:t.2.1 = x:=by simpa using hb
 rw [this,hx] at h
 exact absurd h.2 (by simp)
theorem pF0 {t:Tok} (h:nm t = true):t.1 = 1:=by
 simp only [nm,Bool.and_eq_true,beq_iff_eq] at h
 exact h.1
theorem sZ {x:List Nat} {t:Tok} (h:t.1 = 1):sg x t = false:=by unfold sg; rw [h]; rfl
theorem cX {x y:List Nat} {t:Tok} (h:wd x t = true) (hn:x ≠ y):wd y t = false:=by
 obtain ⟨h1,h2⟩:=fW h
 unfold wd
 rw [h2]
 have:(x == y) = false:=by simpa using hn
 rw [this]; simp
theorem aR1 {x:List Nat} {t:Tok} (h:wd x t = true) (hx:jZ x = false):nm t = false:=by
 obtain ⟨h1,h2⟩:=fW h
 unfold nm
 rw [h2,hx]; simp
theorem ZAt.wordq {w:World} {r E d:Nat} {s:St} {x:List Nat} (h:ZAt w r E d s) (hx:x ∉ fY) (hv:wd x (nxt E s) = true):aR x (nxt E s) = true:=(cG (h.nxt_wf 0) hx).trans hv
theorem ZAt.live {w:World} {r E d:Nat} {s:St} (h:ZAt w r E d s) (hn:(nxt E s).1 ≠ 0):s.wrong = 0:=by
 obtain ⟨_,_,_,_,_,_,_,_,hw,_⟩:=h.pop hn
 exact hw
def kR0 (l:List Tree) (expr:P Tree):P Tree:=bnd (cZ (sg [61])) fun t=>bnd expr fun x=>ret ⟨12,t.2.2.2.1,[],0,l ++ [x]⟩
def yK0 (f:Nat) (expr:P Tree):P Tree:=bnd dA fun t=>bnd (iF f vW) fun l=>bnd (cZ (sg [61])) fun _=>bnd expr fun x=>ret ⟨11,t.2.2.2.1,[],0,l ++ [x]⟩
def cV : List (ByteArray × Nat × Nat):=[(⟨#[124,124]⟩,77,0),(⟨#[38,38]⟩,76,1),(⟨#[61,61]⟩,70,2),(⟨#[33,61]⟩,71,2),(⟨#[60]⟩,72,2),(⟨#[60,61]⟩,73,2),(⟨#[62]⟩,74,2),(⟨#[62,61]⟩,75,2),(⟨#[43]⟩,60,3),(⟨#[45]⟩,61,3),(⟨#[124]⟩,66,3),(⟨#[94]⟩,67,3),(⟨#[42]⟩,62,4),(⟨#[47]⟩,63,4),(⟨#[37]⟩,64,4),(⟨#[38]⟩,65,4),(⟨#[60,60]⟩,68,4),(⟨#[62,62]⟩,69,4)]
def rU0 : List (ByteArray × Nat × Nat)→List Value
 | []=>[]
 | e :: r=>.string e.1 :: .int .u8 (e.2.1:Int) :: .int .i64 (e.2.2:Int) :: rU0 r
theorem rO0 : ∀ (l:List (ByteArray × Nat × Nat)) (k:Nat) (e:ByteArray × Nat × Nat),l[k]? = some e→(rU0 l)[k * 3]? = some (.string e.1)∧(rU0 l)[k * 3 + 1]? = some (.int .u8 (e.2.1:Int))∧(rU0 l)[k * 3 + 2]? = some (.int .i64 (e.2.2:Int)):=by
 intro l
 induction l with
 | nil=>intro k e h; simp at h
 | cons x r ih=>?_
 intro k e h
 cases k with
 | zero=>simp at h; subst h; exact ⟨rfl,rfl,rfl⟩
 | succ k=>?_
 obtain ⟨h1,h2,h3⟩:=ih k e (by simpa using h)
 have e0:(k + 1) * 3 = k * 3 + 1 + 1 + 1:=by omega
 rw [e0]
 refine ⟨h1,?_,?_⟩
 · have e1:k * 3 + 1 + 1 + 1 + 1 = (k * 3 + 1) + 1 + 1 + 1:=by omega
   rw [e1]; exact h2
 have e1:k * 3 + 1 + 1 + 1 + 2 = (k * 3 + 2) + 1 + 1 + 1:=by omega
 rw [e1]; exact h3
theorem iA0 {t:Tok} (h:jE t):∀ e ∈ cV,aR (aD e.1) t = true→bX t = e.2:=by
 intro e he hw
 have hd:∀ x:List Nat,(∀ c r,x = c :: r→bO c = false)→aR x t = true→(t.1 == 4) = true∧t.2.1 = x:=fun x hx hq=>by
  rw [aX h hx] at hq
  simp only [sg,Bool.and_eq_true,beq_iff_eq] at hq
  exact ⟨by rw [hq.1]; rfl,hq.2⟩
 unfold cV at he
 simp only [List.mem_cons,List.not_mem_nil,or_false] at he
 rcases he with rfl | rfl | rfl | rfl | rfl | rfl | rfl | rfl | rfl | rfl | rfl | rfl | rfl | rfl | rfl | rfl | rfl | rfl
 · obtain ⟨h1,h2⟩:=hd [124,124] (fun c r h=>by cases h; rfl) hw
   unfold bX; rw [if_pos h1,h2]; rfl
 · obtain ⟨h1,h2⟩:=hd [38,38] (fun c r h=>by cases h; rfl) hw
   unfold bX; rw [if_pos h1,h2]; rfl
 · obtain ⟨h1,h2⟩:=hd [61,61] (fun c r h=>by cases h; rfl) hw
   unfold bX; rw [if_pos h1,h2]; rfl
 · obtain ⟨h1,h2⟩:=hd [33,61] (fun c r h=>by cases h; rfl) hw
   unfold bX; rw [if_pos h1,h2]; rfl
 · obtain ⟨h1,h2⟩:=hd [60] (fun c r h=>by cases h; rfl) hw
   unfold bX; rw [if_pos h1,h2]; rfl
 · obtain ⟨h1,h2⟩:=hd [60,61] (fun c r h=>by cases h; rfl) hw
   unfold bX; rw [if_pos h1,h2]; rfl
 · obtain ⟨h1,h2⟩:=hd [62] (fun c r h=>by cases h; rfl) hw
   unfold bX; rw [if_pos h1,h2]; rfl
 · obtain ⟨h1,h2⟩:=hd [62,61] (fun c r h=>by cases h; rfl) hw
   unfold bX; rw [if_pos h1,h2]; rfl
 · obtain ⟨h1,h2⟩:=hd [43] (fun c r h=>by cases h; rfl) hw
   unfold bX; rw [if_pos h1,h2]; rfl
 · obtain ⟨h1,h2⟩:=hd [45] (fun c r h=>by cases h; rfl) hw
   unfold bX; rw [if_pos h1,h2]; rfl
 · obtain ⟨h1,h2⟩:=hd [124] (fun c r h=>by cases h; rfl) hw
   unfold bX; rw [if_pos h1,h2]; rfl
 · obtain ⟨h1,h2⟩:=hd [94] (fun c r h=>by cases h; rfl) hw
   unfold bX; rw [if_pos h1,h2]; rfl
 · obtain ⟨h1,h2⟩:=hd [42] (fun c r h=>by cases h; rfl) hw
   unfold bX; rw [if_pos h1,h2]; rfl
 · obtain ⟨h1,h2⟩:=hd [47] (fun c r h=>by cases h; rfl) hw
   unfold bX; rw [if_pos h1,h2]; rfl
 · obtain ⟨h1,h2⟩:=hd [37] (fun c r h=>by cases h; rfl) hw
   unfold bX; rw [if_pos h1,h2]; rfl
 · obtain ⟨h1,h2⟩:=hd [38] (fun c r h=>by cases h; rfl) hw
   unfold bX; rw [if_pos h1,h2]; rfl
 · obtain ⟨h1,h2⟩:=hd [60,60] (fun c r h=>by cases h; rfl) hw
   unfold bX; rw [if_pos h1,h2]; rfl
 obtain ⟨h1,h2⟩:=hd [62,62] (fun c r h=>by cases h; rfl) hw
 unfold bX; rw [if_pos h1,h2]; rfl
theorem eA0 {t:Tok} (H:∀ e ∈ cV,aR (aD e.1) t = false):(bX t).1 = 0:=by
 unfold bX
 by_cases h4:(t.1 == 4) = true
 · have H2:∀ e ∈ cV,(t.2.1 == aD e.1) = false:=fun e he=>by
    have:=H e he
    unfold aR at this
    rw [h4] at this
    simpa using this
   have k0:(t.2.1 == [124,124]) = false:=H2 (⟨#[124,124]⟩,77,0) (by unfold cV; simp)
   have k1:(t.2.1 == [38,38]) = false:=H2 (⟨#[38,38]⟩,76,1) (by unfold cV; simp)
   have k2:(t.2.1 == [61,61]) = false:=H2 (⟨#[61,61]⟩,70,2) (by unfold cV; simp)
   have k3:(t.2.1 == [33,61]) = false:=H2 (⟨#[33,61]⟩,71,2) (by unfold cV; simp)
   have k4:(t.2.1 == [60]) = false:=H2 (⟨#[60]⟩,72,2) (by unfold cV; simp)
   have k5:(t.2.1 == [60,61]) = false:=H2 (⟨#[60,61]⟩,73,2) (by unfold cV; simp)
   have k6:(t.2.1 == [62]) = false:=H2 (⟨#[62]⟩,74,2) (by unfold cV; simp)
   have k7:(t.2.1 == [62,61]) = false:=H2 (⟨#[62,61]⟩,75,2) (by unfold cV; simp)
   have k8:(t.2.1 == [43]) = false:=H2 (⟨#[43]⟩,60,3) (by unfold cV; simp)
   have k9:(t.2.1 == [45]) = false:=H2 (⟨#[45]⟩,61,3) (by unfold cV; simp)
   have k10:(t.2.1 == [124]) = false:=H2 (⟨#[124]⟩,66,3) (by unfold cV; simp)
   have k11:(t.2.1 == [94]) = false:=H2 (⟨#[94]⟩,67,3) (by unfold cV; simp)
   have k12:(t.2.1 == [42]) = false:=H2 (⟨#[42]⟩,62,4) (by unfold cV; simp)
   have k13:(t.2.1 == [47]) = false:=H2 (⟨#[47]⟩,63,4) (by unfold cV; simp)
   have k14:(t.2.1 == [37]) = false:=H2 (⟨#[37]⟩,64,4) (by unfold cV; simp)
   have k15:(t.2.1 == [38]) = false:=H2 (⟨#[38]⟩,65,4) (by unfold cV; simp)
   have k16:(t.2.1 == [60,60]) = false:=H2 (⟨#[60,60]⟩,68,4) (by unfold cV; simp)
   have k17:(t.2.1 == [62,62]) = false:=H2 (⟨#[62,62]⟩,69,4) (by unfold cV; simp)
   rw [if_pos h4,if_neg (by rw [k0]; simp),if_neg (by rw [k1]; simp),if_neg (by rw [k2]; simp),if_neg (by rw [k3]; simp),if_neg (by rw [k4]; simp),if_neg (by rw [k5]; simp),if_neg (by rw [k6]; simp),if_neg (by rw [k7]; simp),if_neg (by rw [k8]; simp),if_neg (by rw [k9]; simp),if_neg (by rw [k10]; simp),if_neg (by rw [k11]; simp),if_neg (by rw [k12]; simp),if_neg (by rw [k13]; simp),if_neg (by rw [k14]; simp),if_neg (by rw [k15]; simp),if_neg (by rw [k16]; simp),if_neg (by rw [k17]; simp)]
 rw [if_neg h4]
def nF (n:Nat) (t:Tok):Nat:=if (bX t).2 = n then (bX t).1 else 0
theorem kZ0 {n:Nat} {t:Tok} (h:jE t) (H:∀ j e,j < 18→cV[j]? = some e→¬ (e.2.2 = n∧aR (aD e.1) t = true)):nF n t = 0:=by
 unfold nF
 split
 · rename_i hn
   refine eA0 fun e he=>?_
   cases hw:aR (aD e.1) t with
   | false=>rfl
   | true=>?_
   obtain ⟨j,hj⟩:=List.getElem?_of_mem he
   have hjl:j < 18:=by
    refine Classical.byContradiction fun z=>?_
    rw [List.getElem?_eq_none (by show 18≤j; omega)] at hj; cases hj
   have hb:=iA0 h e he hw
   exact absurd ⟨by rw [← hn,hb],hw⟩ (H j e hjl hj)
 rfl
def tZ (w:World) (b:Nat):Prop:=∃ ty,Own w b (rU0 cV).toArray ty
theorem jY0 (w:World):Calls Tryz.prog 145 #[] w fun en w'=>en = .returned (.slice (some ⟨w.heap.size,0,none⟩) 18 18)∧tZ w' w.heap.size∧Below w.heap.size w w':=by
 go_enter Tryz.func145,Tryz.ntmps145
 go_wp2
 go_ret
 exact ⟨rfl,⟨_,Own.new w _ _⟩,(Below.refl _ _).alloc (Nat.le_refl _) _⟩
def tF0 (w:World) (E:Nat) (s:St) (n b g:Nat) (v:Value) (wr:World):Prop:=∃ k:Nat,k + g = 18∧v = .int .i64 (k:Int)∧Below w.heap.size w wr∧tZ wr b∧∀ j e,j < k→cV[j]? = some e→¬ (e.2.2 = n∧aR (aD e.1) (nxt E s) = true)
theorem aT0 {w:World} {r E d:Nat} {s:St} (HR:Hid (ZAt w r E d s)) (n:Nat) (z:Int) (hz:z = (n:Int)) (hn:n≤4):Calls Tryz.prog 124 #[.pointer (some ⟨r,0,none⟩),.int .i64 z] w fun en w'=>en = .returned (.int .u8 (nF n (nxt E s):Int))∧Below w.heap.size w w':=by
 subst hz
 have HWF:Hid (jE (nxt E s)):=HR.out.nxt_wf 0
 go_enter Tryz.func124,Tryz.ntmps124
 go_wp2_with fail
 refine (jY0 w).mono ?_
 rintro en w1 ⟨rfl,hS1,hb1⟩
 have HS1:=hI hS1
 clear hS1
 go_wp2_with fail
 go_loopg [6] 18 (fun g v wr=>tF0 w E s n w.heap.size g v wr)
 case atStart=>exact ⟨0,by omega,rfl,hb1,HS1.out,fun j x h=>by omega⟩
 case round =>
  obtain ⟨k,hk,rfl,hb,hS,hno⟩:=hrel
  have HNO:=hI hno
  have HS:=hI hS
  clear hno hS HS1 hb1
  by_cases hlt:k < 18
  · obtain ⟨e,he⟩:∃ e,cV[k]? = some e:=⟨cV[k]'hlt,List.getElem?_eq_getElem _⟩
    obtain ⟨x,kd,ln⟩:=e
    obtain ⟨ty,ho⟩:=HS.out
    obtain ⟨t0,t1,t2⟩:=rO0 cV k _ he
    have c0:wr.cell? ⟨w.heap.size,k * 3,none⟩ = some (.string x):=(cell_of_row _ _ (k * 3) _ _ _ ho).trans (by rw [List.getElem?_toArray]; exact t0)
    have c1:wr.cell? ⟨w.heap.size,k * 3 + 1,none⟩ = some (.int .u8 (kd:Int)):=(cell_of_row _ _ (k * 3 + 1) _ _ _ ho).trans (by rw [List.getElem?_toArray]; exact t1)
    have c2:wr.cell? ⟨w.heap.size,k * 3 + 2,none⟩ = some (.int .i64 (ln:Int)):=(cell_of_row _ _ (k * 3 + 2) _ _ _ ho).trans (by rw [List.getElem?_toArray]; exact t2)
    have hbl:=ho.lt
    have i1:(k:Int) < 18:=by omega
    have i2:(0:Int)≤(k:Int):=by omega
    have HX:=hI he
    have HRr:Hid (ZAt wr r E d s):=HR.out.below hb
    have HK:=hI hk
    clear he ho hk t0 t1 t2
    by_cases hl:ln = n
    · subst hl
      obtain ⟨q1,hq1⟩:=iQ (aR (aD x) (nxt E s))
      go_wp2_with fail
      refine (bG HRr x q1 hq1).mono ?_
      rintro en w1 ⟨rfl,hb1⟩
      have hb2:Below w.heap.size w w1:=hb.trans (hb1.mono hb.size)
      have hS2:tZ w1 w.heap.size:=by
       obtain ⟨ty,ho⟩:=HS.out
       exact ⟨ty,ho.below hb1⟩
      obtain ⟨ty2,ho2⟩:=hS2
      obtain ⟨_,t1,_⟩:=rO0 cV k _ HX.out
      have c3:w1.cell? ⟨w.heap.size,k * 3 + 1,none⟩ = some (.int .u8 (kd:Int)):=(cell_of_row _ _ (k * 3 + 1) _ _ _ ho2).trans (by rw [List.getElem?_toArray]; exact t1)
      have hbl2:=ho2.lt
      have HS2:Hid (tZ w1 w.heap.size):=⟨ty2,ho2⟩
      clear ho2 t1
      cases q1 with
      | true =>
       have HF:Hid (nF ln (nxt E s) = kd):=by
        unfold Hid nF
        rw [iA0 HWF.out _ (List.mem_of_getElem? HX.out) hq1]
        simp
       clear hq1
       go_wp2
       go_ret
       exact ⟨by rw [HF.out]; rfl,hb2⟩
      | false=>?_
      have HN2:Hid (∀ j e,j < k + 1→cV[j]? = some e→¬ (e.2.2 = ln∧aR (aD e.1) (nxt E s) = true)):=fun j y hj hy=>by
       by_cases e:j = k
       · subst e; rw [HX.out] at hy; cases hy; intro hh; rw [hq1] at hh; cases hh.2
       exact HNO.out j y (by omega) hy
      have hg1:1≤gk:=by have:=HK.out; omega
      clear hq1
      go_wp2
      go_roundg (gk - 1)
      case rel=>exact ⟨k + 1,by have:=HK.out; omega,by go_num,hb2,HS2.out,HN2.out⟩
      case measure=>omega
    have j1:¬ ((ln:Int) = (n:Int)):=by omega
    have HN2:Hid (∀ j e,j < k + 1→cV[j]? = some e→¬ (e.2.2 = n∧aR (aD e.1) (nxt E s) = true)):=fun j y hj hy=>by
     by_cases e:j = k
     · subst e; rw [HX.out] at hy; cases hy; intro hh; exact hl hh.1
     exact HNO.out j y (by omega) hy
    have hg1:1≤gk:=by have:=HK.out; omega
    go_wp2
    go_roundg (gk - 1)
    case rel=>exact ⟨k + 1,by have:=HK.out; omega,by go_num,hb,HS.out,HN2.out⟩
    case measure=>omega
  have i1:¬ (k:Int) < 18:=by omega
  have hk18:k = 18:=by omega
  have HF:Hid (nF n (nxt E s) = 0):=kZ0 HWF.out (by rw [← hk18]; exact HNO.out)
  go_wp2
  go_ret
  exact ⟨by rw [HF.out]; rfl,hb⟩
end Go.Proofs.YtnipenijihkgdaaGreatDoor
