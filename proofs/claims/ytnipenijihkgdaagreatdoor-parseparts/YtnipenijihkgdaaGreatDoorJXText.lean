import Derived.Test.YtnipenijihkgdaaGreatDoorNd
import Derived.Test.YtnipenijihkgdaaGreatDoorJXMid
import Derived.BigRegion
import Derived.Deep.RegionHeld3
import Derived.Deep.RegionWith
set_option maxHeartbeats 2000000
set_option maxRecDepth 100000
namespace Go.Proofs.YtnipenijihkgdaaGreatDoor
open Go.RowKit
set_option linter.unusedVariables false
theorem rR0 (c:Nat) (h:bM c = false) (h34:¬ c = 34) (h92:¬ c = 92):lN c = true:=by
 simp [bM] at h
 simp [lN]; omega
theorem oM0 (c:Nat) (r:List Nat) (hr:∀ d ∈ c :: r,d < 256) (h34:¬ c = 34) (B K:Nat) (h:mG (c :: r) = (B,K,0)):T (c :: r) = jX K [B] (T ((c :: r).drop K))∧1≤K∧K≤r.length + 1∧B < 256:=by
 by_cases he:bM c = true
 · rw [rB _ _ he] at h; simp at h
 have he':bM c = false:=by simpa using he
 by_cases h92:c = 92
 · subst h92
   rw [sT] at h
   have hok:=hT0 h
   have hl:=rE hok
   refine ⟨?_,by omega,by omega,dO0 (fun d hd=>hr d (List.mem_cons_of_mem _ hd)) hok⟩
   rw [yO0 92 r B K he' (by omega) rfl hok]
   obtain ⟨m,rfl⟩:∃ m,K = m + 1:=⟨K - 1,by omega⟩
   rfl
 rw [qQ _ _ he' h92] at h
 obtain ⟨rfl,h2⟩:=Prod.mk.inj h
 obtain ⟨rfl,_⟩:=Prod.mk.inj h2
 exact ⟨iB0 c r he' h34 (rR0 c he' h34 h92),by omega,by omega,hr c (by simp)⟩
theorem qQ0 (c:Nat) (r:List Nat) (h34:¬ c = 34) (B K X:Nat) (h:mG (c :: r) = (B,K,X)) (h0:¬ X = 0):B = 0∧K = 0∧((X = 31∧T (c :: r) = .error (none,31))∨(X = 32∧T (c :: r) = .error (some 0,32))):=by
 by_cases he:bM c = true
 · rw [rB _ _ he] at h
   obtain ⟨rfl,h2⟩:=Prod.mk.inj h
   obtain ⟨rfl,rfl⟩:=Prod.mk.inj h2
   exact ⟨rfl,rfl,.inl ⟨rfl,uE0 c r he⟩⟩
 have he':bM c = false:=by simpa using he
 by_cases h92:c = 92
 · subst h92
   rw [sT] at h
   obtain ⟨her,rfl,rfl,h3132⟩:=hS0 h h0
   refine ⟨rfl,rfl,?_⟩
   rcases h3132 with rfl | rfl
   · exact .inl ⟨rfl,hG0 92 r he' (by omega) rfl her⟩
   exact .inr ⟨rfl,pP0 92 r 32 he' (by omega) rfl her (by omega)⟩
 rw [qQ _ _ he' h92] at h
 obtain ⟨rfl,h2⟩:=Prod.mk.inj h
 obtain ⟨rfl,h3⟩:=Prod.mk.inj h2
 exact absurd h3.symm h0
def pL (p:Nat) (t:Except (Option Nat × Nat) (List Nat × Nat)):Value :=
 match t with
 | .ok (out,m)=>fJ 3 0 p ((p + 1 + m:Nat):Int) (bJ out)
 | .error (none,e)=>eP p p e
 | .error (some q,e)=>eP p ((p + 1 + q:Nat):Int) e
theorem rM0 (p j:Nat) (outs:List Nat) (h:p + 1≤j):pL p (.ok (outs,1 + (j - (p + 1)))) = fJ 3 0 p ((j:Int) + 1) (bJ outs):=by
 show fJ 3 0 p ((p + 1 + (1 + (j - (p + 1))):Nat):Int) _ = _
 rw [show ((p + 1 + (1 + (j - (p + 1))):Nat):Int) = (j:Int) + 1 by omega]
theorem pR0 (p j e:Nat) (h:p + 1≤j):pL p (.error (some (0 + (j - (p + 1))),e)) = eP p j e:=by
 show eP p ((p + 1 + (0 + (j - (p + 1))):Nat):Int) e = _
 rw [show ((p + 1 + (0 + (j - (p + 1))):Nat):Int) = (j:Int) by omega]
theorem kD0 {w w':World} {B n:Nat} {v:Value} {xs:List Value} (h:w.ownsRow B 5 1 v n xs) (hb:Below w.heap.size w w'):w'.ownsRow B 5 1 v n xs:=by
 refine ⟨h.1,?_⟩
 rcases h.2 with hn | ⟨g,cap,cur,hv,hB,hg,rest⟩
 · exact .inl hn
 exact .inr ⟨g,cap,cur,hv,hB,by rw [hb.block g (Array.getElem?_eq_some_iff.1 hg).1]; exact hg,rest⟩
theorem tS0 (s:ByteArray) (y:Int) (p:Nat) (R:Value) (hy:y = p) (hp:p < s.size) (h:s.size≤1048576) (hR:pL p (T ((aD s).drop (p + 1))) = R) (w:World) :
    Calls Tryz.prog 134 #[.string s,.int .i64 y] w fun e w'=>e = .returned R∧Below w.heap.size w w':=by
 subst hy
 obtain ⟨TT,hTT⟩:∃ TT,Hid (T ((aD s).drop (p + 1)) = TT):=⟨_,rfl⟩
 have HR:Hid (pL p TT = R):=by unfold Hid; rw [← hTT.out]; exact hR
 clear hR
 obtain ⟨g,hg⟩:∃ g,g = w.heap.size:=⟨_,rfl⟩
 have HG:=hI hg
 go_enter Tryz.func134,Tryz.ntmps134
 go_wp2_with fail
 rw [← hg]
 clear hg
 obtain ⟨w1,hw1⟩:∃ w1,w1 = w.alloc (.cells #[.int .u8 0,.string ⟨#[]⟩,.int .u64 0,.int .i64 0,.int .i64 0,.int .i64 0,.int .i64 0] 86):=⟨_,rfl⟩
 rw [← hw1]
 have HW1:=hI hw1
 have HB0:Hid (Below g w w1):=by unfold Hid; rw [hw1]; exact (Below.refl _ _).alloc (by rw [HG.out]; exact Nat.le_refl _) _
 have HS1:Hid (w1.heap.size = g + 1):=by unfold Hid; rw [hw1,HG.out]; exact Array.size_push _
 clear hw1
 go_loopw [5,6] (fun v i wr=>iO0 s w1 (g + 1) p TT v i wr) (fun _ i _=>s.size - (intOf i).toNat)
 case atStart=>exact ⟨p + 1,[],by omega,by omega,by simp,by go_num,World.ownsRow_nil _ _ _ _,Below.refl _ _,by rw [Nat.sub_self,tL]; exact hTT.out⟩
 case round =>
  obtain ⟨j,outs,hpj,hj,hlen,rfl,hown,hbel,hsh⟩:=hrel
  have hblk0:wr.heap[g]? = some dM:=by
   rw [hbel.block g (by omega),HW1.out,HG.out]; exact heap_alloc_new w _
  have HBK0:=hI hblk0
  have OW:=hI hown
  have BL:=hI hbel
  have BW:Hid (Below g w wr):=HB0.out.trans (hbel.mono (by omega))
  have hbase:g + 1≤wr.heap.size:=by have:=hbel.size; rw [HS1.out] at this; exact this
  have SH:=hI hsh
  have hl2:outs.length≤1048576:=by omega
  clear hblk0 hown hbel hsh
  have HKEEP:Hid (∀ w2,Below wr.heap.size wr w2→w2.heap[g]? = some dM∧Below g w w2∧g + 1≤w2.heap.size∧w2.ownsRow (g + 1) 5 1 u5 outs.length (qF outs)∧Below (g + 1) w1 w2):=by
   intro w2 hb2
   exact ⟨by rw [hb2.block g (by omega)]; exact HBK0.out,BW.out.trans (hb2.mono (by omega)),Nat.le_trans hbase hb2.size,kD0 OW.out hb2,BL.out.trans (hb2.mono hbase)⟩
  by_cases hq:(aD s)[j]? = some 34
  · obtain ⟨hjl,hj34⟩:=List.getElem?_eq_some_iff.1 hq
    have hlt:j < s.size:=by rw [aK] at hjl; exact hjl
    have hc:(s[j]'hlt).toNat = 34:=by
     have:=oD s j hlt
     rw [hq] at this
     exact (Option.some.inj this).symm
    have HRV:Hid (pL p (.ok (outs,1 + (j - (p + 1)))) = R):=by
     unfold Hid; rw [← HR.out,← SH.out,bY s j hlt,hc,iH0]; simp [jX]
    have hcv:=aO0 OW.out
    have hblk:=HBK0.out
    unfold dM at hblk
    have c0:wr.cell? ⟨g,0,none⟩ = some (.int .u8 0):=cell_of_row _ g 0 _ _ _ hblk
    have c1:wr.cell? ⟨g,1,none⟩ = some (.string ⟨#[]⟩):=cell_of_row _ g 1 _ _ _ hblk
    have c2:wr.cell? ⟨g,2,none⟩ = some (.int .u64 0):=cell_of_row _ g 2 _ _ _ hblk
    have c3:wr.cell? ⟨g,3,none⟩ = some (.int .i64 0):=cell_of_row _ g 3 _ _ _ hblk
    have c4:wr.cell? ⟨g,4,none⟩ = some (.int .i64 0):=cell_of_row _ g 4 _ _ _ hblk
    have c5:wr.cell? ⟨g,5,none⟩ = some (.int .i64 0):=cell_of_row _ g 5 _ _ _ hblk
    have c6:wr.cell? ⟨g,6,none⟩ = some (.int .i64 0):=cell_of_row _ g 6 _ _ _ hblk
    have f0:∀ j,wr.frozen? ⟨g,j,none⟩ = false:=fun j=>by simp [World.frozen?,hblk]
    have HBK:=hI hblk
    clear hq hjl hj34 hblk
    go_wp2
    refine aC (g:=g) (t:=86) rfl rfl rfl (dR _ _ _ _ _ _ _ _ _ _ _ _ _ _ _ _ _ _ HBK.out) Tryz.underlying86 rfl (by kernel_rfl) ?_
    refine ⟨?_,by rw [← HG.out]; exact dT BW.out (Nat.le_refl _)⟩
    rw [← HRV.out,rM0 p j outs hpj]
    rfl
  have hcond:(j < s.size∧∃ c,∃ hlt:j < s.size,(s[j]'hlt).toNat = c∧¬ c = 34)∨s.size≤j:=by
   by_cases hlt:j < s.size
   · refine .inl ⟨hlt,_,hlt,rfl,?_⟩
     intro e
     exact hq (by rw [oD s j hlt,e])
   exact .inr (by omega)
  clear hq
  rcases hcond with ⟨hlt,c,_,hc,h34⟩ | hjs
  · have hdrop:=bY s j hlt
    rw [hc] at hdrop
    have HD:=hI hdrop
    have hq0:((c:Int) != 34) = true:=by simp; omega
    obtain ⟨⟨B,K,X⟩,hX⟩:∃ x,mG ((aD s).drop j) = x:=⟨_,rfl⟩
    have HX:=hI hX
    rw [hdrop] at hX
    by_cases hX0:X = 0
    · subst hX0
      obtain ⟨hT,hK1,hK2,hB⟩:=oM0 c _ (by rw [← hdrop]; exact fun d hd=>dO s d (List.mem_of_mem_drop hd)) h34 B K hX
      rw [List.length_drop,aK] at hK2
      have SH2:Hid (jX (j + K - (p + 1)) (outs ++ [B]) (T ((aD s).drop (j + K))) = TT):=by
       unfold Hid
       rw [← SH.out,HD.out,hT,oL,← HD.out,List.drop_drop]
       congr 1; omega
      have hK3:j + K≤s.size:=by omega
      clear hdrop hX hT h34
      go_wp2_with fail
      refine (pU s _ j B K 0 rfl hj h HX.out _).mono ?_
      rintro e w2 ⟨rfl,hb2⟩
      obtain ⟨hz,hbw,hsz2,OW2,BL2⟩:=HKEEP.out w2 hb2
      have OW3:=hI OW2
      have BL3:=hI BL2
      clear hb2 hz hbw OW2 BL2
      go_wp2_with (at_builtin; refine pH rfl (.tmp 42) (.tmp 44) rfl (g + 1) u5 outs.length outs rfl OW3.out _ B rfl rfl (by omega) hsz2 ?_; intro v1 w1' own1 bel1)
      go_roundw
      case rel =>
       refine ⟨j + K,outs ++ [B],by omega,by omega,by rw [List.length_append]; simp; omega,by go_num,?_,BL3.out.trans bel1,SH2.out⟩
       rw [List.length_append]; exact own1
      case measure=>simp [intOf]; omega
    obtain ⟨rfl,rfl,h3132⟩:=qQ0 c _ h34 B K X hX hX0
    rcases h3132 with ⟨rfl,hT⟩ | ⟨rfl,hT⟩
    · have HRV:Hid (pL p (.error (none,31)) = R):=by
       unfold Hid; rw [← HR.out,← SH.out,HD.out,hT]; rfl
      clear hdrop hX hT h34 hX0
      go_wp2_with fail
      refine (pU s _ j 0 0 31 rfl hj h HX.out _).mono ?_
      rintro e w2 ⟨rfl,hb2⟩
      go_wp2_with fail
      refine (kZ p p 31 _).mono ?_
      rintro e w3 ⟨rfl,hb3⟩
      obtain ⟨hblk,hbw,hsz2,_,_⟩:=HKEEP.out w3 (cL hb2 hb3 (Nat.le_refl _))
      unfold dM at hblk
      unfold eP
      have HBW:=hI hbw
      have c0:w3.cell? ⟨g,0,none⟩ = some (.int .u8 0):=cell_of_row _ g 0 _ _ _ hblk
      have c1:w3.cell? ⟨g,1,none⟩ = some (.string ⟨#[]⟩):=cell_of_row _ g 1 _ _ _ hblk
      have c2:w3.cell? ⟨g,2,none⟩ = some (.int .u64 0):=cell_of_row _ g 2 _ _ _ hblk
      have c3:w3.cell? ⟨g,3,none⟩ = some (.int .i64 0):=cell_of_row _ g 3 _ _ _ hblk
      have c4:w3.cell? ⟨g,4,none⟩ = some (.int .i64 0):=cell_of_row _ g 4 _ _ _ hblk
      have c5:w3.cell? ⟨g,5,none⟩ = some (.int .i64 0):=cell_of_row _ g 5 _ _ _ hblk
      have c6:w3.cell? ⟨g,6,none⟩ = some (.int .i64 0):=cell_of_row _ g 6 _ _ _ hblk
      have f0:∀ j,w3.frozen? ⟨g,j,none⟩ = false:=fun j=>by simp [World.frozen?,hblk]
      have HBK:=hI hblk
      clear hblk hb2 hb3 hbw
      go_wp2
      refine aC (g:=g) (t:=86) rfl rfl rfl (dR _ _ _ _ _ _ _ _ _ _ _ _ _ _ _ _ _ _ HBK.out) Tryz.underlying86 rfl (by kernel_rfl) ?_
      exact ⟨by rw [← HRV.out]; rfl,by rw [← HG.out]; exact dT HBW.out (Nat.le_refl _)⟩
    have HRV:Hid (pL p (.error (some (0 + (j - (p + 1))),32)) = R):=by
     unfold Hid; rw [← HR.out,← SH.out,HD.out,hT]; rfl
    clear hdrop hX hT h34 hX0
    go_wp2_with fail
    refine (pU s _ j 0 0 32 rfl hj h HX.out _).mono ?_
    rintro e w2 ⟨rfl,hb2⟩
    go_wp2_with fail
    refine (kZ p j 32 _).mono ?_
    rintro e w3 ⟨rfl,hb3⟩
    obtain ⟨hblk,hbw,hsz2,_,_⟩:=HKEEP.out w3 (cL hb2 hb3 (Nat.le_refl _))
    unfold dM at hblk
    unfold eP
    have HBW:=hI hbw
    have c0:w3.cell? ⟨g,0,none⟩ = some (.int .u8 0):=cell_of_row _ g 0 _ _ _ hblk
    have c1:w3.cell? ⟨g,1,none⟩ = some (.string ⟨#[]⟩):=cell_of_row _ g 1 _ _ _ hblk
    have c2:w3.cell? ⟨g,2,none⟩ = some (.int .u64 0):=cell_of_row _ g 2 _ _ _ hblk
    have c3:w3.cell? ⟨g,3,none⟩ = some (.int .i64 0):=cell_of_row _ g 3 _ _ _ hblk
    have c4:w3.cell? ⟨g,4,none⟩ = some (.int .i64 0):=cell_of_row _ g 4 _ _ _ hblk
    have c5:w3.cell? ⟨g,5,none⟩ = some (.int .i64 0):=cell_of_row _ g 5 _ _ _ hblk
    have c6:w3.cell? ⟨g,6,none⟩ = some (.int .i64 0):=cell_of_row _ g 6 _ _ _ hblk
    have f0:∀ j,w3.frozen? ⟨g,j,none⟩ = false:=fun j=>by simp [World.frozen?,hblk]
    have HBK:=hI hblk
    clear hblk hb2 hb3 hbw
    go_wp2
    refine aC (g:=g) (t:=86) rfl rfl rfl (dR _ _ _ _ _ _ _ _ _ _ _ _ _ _ _ _ _ _ HBK.out) Tryz.underlying86 rfl (by kernel_rfl) ?_
    refine ⟨?_,by rw [← HG.out]; exact dT HBW.out (Nat.le_refl _)⟩
    rw [← HRV.out,pR0 p j 32 hpj]
    rfl
  have hnil:(aD s).drop j = []:=List.drop_eq_nil_of_le (by rw [aK]; omega)
  have HX:Hid (mG ((aD s).drop j) = (0,0,31)):=by unfold Hid; rw [hnil]; rfl
  have HRV:Hid (pL p (.error (none,31)) = R):=by
   unfold Hid; rw [← HR.out,← SH.out,hnil,yH0]; rfl
  clear hnil
  go_wp2_with fail
  refine (pU s _ j 0 0 31 rfl hj h HX.out _).mono ?_
  rintro e w2 ⟨rfl,hb2⟩
  go_wp2_with fail
  refine (kZ p p 31 _).mono ?_
  rintro e w3 ⟨rfl,hb3⟩
  obtain ⟨hblk,hbw,hsz2,_,_⟩:=HKEEP.out w3 (cL hb2 hb3 (Nat.le_refl _))
  unfold dM at hblk
  unfold eP
  have HBW:=hI hbw
  have c0:w3.cell? ⟨g,0,none⟩ = some (.int .u8 0):=cell_of_row _ g 0 _ _ _ hblk
  have c1:w3.cell? ⟨g,1,none⟩ = some (.string ⟨#[]⟩):=cell_of_row _ g 1 _ _ _ hblk
  have c2:w3.cell? ⟨g,2,none⟩ = some (.int .u64 0):=cell_of_row _ g 2 _ _ _ hblk
  have c3:w3.cell? ⟨g,3,none⟩ = some (.int .i64 0):=cell_of_row _ g 3 _ _ _ hblk
  have c4:w3.cell? ⟨g,4,none⟩ = some (.int .i64 0):=cell_of_row _ g 4 _ _ _ hblk
  have c5:w3.cell? ⟨g,5,none⟩ = some (.int .i64 0):=cell_of_row _ g 5 _ _ _ hblk
  have c6:w3.cell? ⟨g,6,none⟩ = some (.int .i64 0):=cell_of_row _ g 6 _ _ _ hblk
  have f0:∀ j,w3.frozen? ⟨g,j,none⟩ = false:=fun j=>by simp [World.frozen?,hblk]
  have HBK:=hI hblk
  clear hblk hb2 hb3 hbw
  go_wp2
  refine aC (g:=g) (t:=86) rfl rfl rfl (dR _ _ _ _ _ _ _ _ _ _ _ _ _ _ _ _ _ _ HBK.out) Tryz.underlying86 rfl (by kernel_rfl) ?_
  exact ⟨by rw [← HRV.out]; rfl,by rw [← HG.out]; exact dT HBW.out (Nat.le_refl _)⟩
def nO : List ByteArray:=[⟨#[105,56]⟩,⟨#[105,51,50]⟩,⟨#[105,54,52]⟩]
theorem gW {l y:List Nat} (h:dG l y = true):l = y ++ l.drop y.length:=by
 unfold dG at h
 simp only [decide_eq_true_eq] at h
 exact (List.take_append_drop y.length l).symm.trans (by rw [h])
theorem pI (l:List Nat):(fF l nO = ⟨#[105,56]⟩∧dG l [105,56] = true)∨(fF l nO = ⟨#[105,51,50]⟩∧dG l [105,51,50] = true)∨(fF l nO = ⟨#[105,54,52]⟩∧dG l [105,54,52] = true) ∨
    (fF l nO = ⟨#[]⟩∧dG l [105,56] = false∧dG l [105,51,50] = false∧dG l [105,54,52] = false):=by
 have b1:aD ⟨#[105,56]⟩ = [105,56]:=rfl
 have b2:aD ⟨#[105,51,50]⟩ = [105,51,50]:=rfl
 have b3:aD ⟨#[105,54,52]⟩ = [105,54,52]:=rfl
 unfold fF nO
 by_cases h1:dG l [105,56] = true
 · exact .inl ⟨by simp [b1,h1],h1⟩
 have h1':dG l [105,56] = false:=by simpa using h1
 by_cases h2:dG l [105,51,50] = true
 · exact .inr (.inl ⟨by simp [b1,b2,h1',h2],h2⟩)
 have h2':dG l [105,51,50] = false:=by simpa using h2
 by_cases h3:dG l [105,54,52] = true
 · exact .inr (.inr (.inl ⟨by simp [b1,b2,b3,h1',h2',h3],h3⟩))
 have h3':dG l [105,54,52] = false:=by simpa using h3
 exact .inr (.inr (.inr ⟨by simp [b1,b2,b3,h1',h2',h3'],h1',h2',h3'⟩))
theorem pZ (t:List Nat) (h:∀ c r,t = c :: r→cO c = false):t.takeWhile cO = []:=by
 cases t with
 | nil=>rfl
 | cons c r=>rw [List.takeWhile_cons,if_neg (by simp [h c r rfl])]
theorem aI0 (l:List Nat) (x:ByteArray) (hx:fF l nO = x) (h:∀ c r,l.drop x.size = c :: r→cO c = false):l.takeWhile cO = aD x∧oS (aD x) = true:=by
 subst hx
 rcases pI l with ⟨e,hb⟩ | ⟨e,hb⟩ | ⟨e,hb⟩ | ⟨e,_,_,_⟩
 · rw [e] at h ⊢
   refine ⟨?_,rfl⟩
   have ht:=pZ (l.drop 2) h
   have hl:=gW hb
   generalize l.drop [105,56].length = t at hl
   rw [hl] at ht ⊢
   simp only [List.drop_succ_cons,List.drop_zero,List.cons_append,List.nil_append] at ht ⊢
   simp [ht,cO,bO,aY]; rfl
 · rw [e] at h ⊢
   refine ⟨?_,rfl⟩
   have ht:=pZ (l.drop 3) h
   have hl:=gW hb
   generalize l.drop [105,51,50].length = t at hl
   rw [hl] at ht ⊢
   simp only [List.drop_succ_cons,List.drop_zero,List.cons_append,List.nil_append] at ht ⊢
   simp [ht,cO,bO,aY]; rfl
 · rw [e] at h ⊢
   refine ⟨?_,rfl⟩
   have ht:=pZ (l.drop 3) h
   have hl:=gW hb
   generalize l.drop [105,54,52].length = t at hl
   rw [hl] at ht ⊢
   simp only [List.drop_succ_cons,List.drop_zero,List.cons_append,List.nil_append] at ht ⊢
   simp [ht,cO,bO,aY]; rfl
 rw [e] at h ⊢
 exact ⟨pZ l h,rfl⟩
theorem dX0 (l:List Nat) (x:ByteArray) (hx:fF l nO = x) (c:Nat) (r:List Nat) (h:l.drop x.size = c :: r) (hc:cO c = true):oS (l.takeWhile cO) = false:=by
 subst hx
 rcases pI l with ⟨e,hb⟩ | ⟨e,hb⟩ | ⟨e,hb⟩ | ⟨e,h1,h2,h3⟩
 · rw [e] at h
   have h:l.drop 2 = c :: r:=h
   have hl:l = [105,56] ++ l.drop 2:=gW hb
   rw [h] at hl
   rw [hl]
   have hc2:=hc
   simp only [List.cons_append,List.nil_append,List.takeWhile_cons,hc2,if_true]
   simp [cO,bO,aY,oS]
 · rw [e] at h
   have h:l.drop 3 = c :: r:=h
   have hl:l = [105,51,50] ++ l.drop 3:=gW hb
   rw [h] at hl
   rw [hl]
   have hc2:=hc
   simp only [List.cons_append,List.nil_append,List.takeWhile_cons,hc2,if_true]
   simp [cO,bO,aY,oS]
 · rw [e] at h
   have h:l.drop 3 = c :: r:=h
   have hl:l = [105,54,52] ++ l.drop 3:=gW hb
   rw [h] at hl
   rw [hl]
   have hc2:=hc
   simp only [List.cons_append,List.nil_append,List.takeWhile_cons,hc2,if_true]
   simp [cO,bO,aY,oS]
 rw [e] at h
 have h:l = c :: r:=h
 have ht:=eI cO l
 have hne:¬ l.takeWhile cO = []:=by rw [h,List.takeWhile_cons,if_pos hc]; simp
 simp only [oS,Bool.or_eq_false_iff,decide_eq_false_iff_not]
 refine ⟨⟨⟨hne,?_⟩,?_⟩,?_⟩
 · intro q; rw [q] at ht; simp [dG] at h1; exact h1 ht
 · intro q; rw [q] at ht; simp [dG] at h2; exact h2 ht
 intro q; rw [q] at ht; simp [dG] at h3; exact h3 ht
end Go.Proofs.YtnipenijihkgdaaGreatDoor
