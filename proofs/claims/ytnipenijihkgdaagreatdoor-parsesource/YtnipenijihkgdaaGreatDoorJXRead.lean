import Derived.Test.YtnipenijihkgdaaGreatDoorNd
import Derived.Test.YtnipenijihkgdaaGreatDoorJXText
import Derived.Test.YtnipenijihkgdaaGreatDoorJLow
set_option maxHeartbeats 2000000
set_option maxRecDepth 100000
namespace Go.Proofs.YtnipenijihkgdaaGreatDoor
open Go.RowKit
set_option linter.unusedVariables false
theorem qC (j:Nat):(nO.getD j ⟨#[]⟩).size≤10:=by
 match j with
 | 0=>decide
 | 1=>decide
 | 2=>decide
 | n + 3=>exact Nat.zero_le _
theorem nV (w:World) (i:Nat) (h:i < 3):(w.alloc (.cells #[.string ⟨#[105,56]⟩,.string ⟨#[105,51,50]⟩,.string ⟨#[105,54,52]⟩] 9)).cell? ⟨w.heap.size,i,none⟩ = some (.string (nO.getD i ⟨#[]⟩)):=by
 match i,h with
 | 0,_=>exact cell_of_row _ _ 0 _ _ _ (heap_alloc_new _ _)
 | 1,_=>exact cell_of_row _ _ 1 _ _ _ (heap_alloc_new _ _)
 | 2,_=>exact cell_of_row _ _ 2 _ _ _ (heap_alloc_new _ _)
theorem lU (w:World) (o:Obj) (k:Nat) (hk:k < 5) (v:Int) (hv:v = k) (t:TypeId):qA ((w.alloc o).alloc (.cells #[.int .u8 v] t)) (w.heap.size + 1) [k]:=by
 have hs:(w.alloc o).heap.size = w.heap.size + 1:=Array.size_push _
 rw [← hs]; exact lM (w.alloc o) k hk v hv t
def ZK (g:Nat) (w w1:World):Prop:=w1.heap[g]? = some dM∧Below g w w1∧g < w1.heap.size
theorem ZK.on {g:Nat} {w w1 w2:World} (h:ZK g w w1) (hb:Below w1.heap.size w1 w2):ZK g w w2 :=
 ⟨by rw [hb.block g h.2.2]; exact h.1,h.2.1.trans (hb.mono (Nat.le_of_lt h.2.2)),Nat.lt_of_lt_of_le h.2.2 hb.size⟩
theorem ZK.alloc {g:Nat} {w w1:World} (h:ZK g w w1) (o:Obj):ZK g w (w1.alloc o):=h.on ((Below.refl _ _).alloc (Nat.le_refl _) _)
theorem ZK.new {g:Nat} {w:World} (hg:g = w.heap.size):ZK g w (w.alloc dM):=by
 have hs:(w.alloc dM).heap.size = w.heap.size + 1:=Array.size_push _
 exact ⟨by rw [hg]; exact heap_alloc_new w _,(Below.refl g w).alloc (by omega) _,by omega⟩
theorem oZ0 (s:ByteArray) (p E F V TP:Nat) (x t:ByteArray) (hp:p < s.size) (h:s.size≤1048576) (hE:p + mU ((aD s).drop p) = E) (hpE:p < E) (hEs:E≤s.size) (ht:s.extract p E = t)
    (hx:fF ((aD s).drop E) nO = x) (hF:E + x.size = F) (hFs:F≤s.size) (hts:t.size≤1048576) (hTP:lL (aD x) = TP) (hTP2:TP = 255∨TP = 4294967295∨TP = 18446744073709551615) (hne:aD t ≠ []) (hd:∀ c ∈ aD t,aY c = true) (hV:oZ (aD t) = V) (hle:V≤TP)
    (hend:F = s.size) (w:World) :
    Calls Tryz.prog 133 #[.string s,.int .i64 (p:Int)] w fun e w'=>e = .returned (fJ 2 V p F x)∧Below w.heap.size w w':=by
 have HE:=hI hE
 have HX:=hI hx
 have HF:=hI hF
 have HT:=hI hTP
 have HT2:=hI hTP2
 have HN:=hI hne
 have HD:=hI hd
 have HV:=hI hV
 have HL:=hI hle
 have hFi:(E:Int) + (x.size:Int) = (F:Int):=by omega
 have hFj:(p:Int)≤(E:Int):=by omega
 have hFn:¬ (F:Int) < (s.size:Int):=by omega
 clear hend
 obtain ⟨u,hu⟩:∃ u,Hid (s.extract E s.size = u):=⟨_,rfl⟩
 have hue:s.extract E s.size = u:=hu.out
 have HUB:Hid (aD u = (aD s).drop E):=by unfold Hid; rw [← hue]; exact iG s E hEs
 have hus:u.size≤1048576:=by rw [← hue,kX s E hEs]; omega
 clear hE hx hF hTP hTP2 hne hd hV hle
 obtain ⟨g,hg⟩:∃ g,g = w.heap.size:=⟨_,rfl⟩
 have HG:=hI hg
 go_enter Tryz.func133,Tryz.ntmps133
 go_wp2_with fail
 refine (gY s p p E [2] (w.heap.size + 1) 1 _ rfl (by omega) h rfl (by omega) (by rw [bV0]; exact HE.out) (lU w _ 2 (by omega) 2 rfl _)).mono ?_
 rintro e wx ⟨rfl,rfl⟩
 obtain ⟨w1,hw1⟩:∃ w1,w1 = (w.alloc dM).alloc (.cells #[.int .u8 2] 114):=⟨_,rfl⟩
 have HZ:Hid (ZK g w w1):=by unfold Hid; rw [hw1]; exact (ZK.new hg).alloc _
 unfold dM at hw1
 rw [← hw1,← hg]
 clear hw1 hg
 go_wp2_with fail
 refine (lD u hus nO w1.heap.size 3 _ rfl (by omega) qC x (by rw [HUB.out]; exact HX.out) (nV w1)).mono ?_
 rintro e wx ⟨rfl,rfl⟩
 obtain ⟨w2,hw2⟩:∃ w2,w2 = w1.alloc (.cells #[.string ⟨#[105,56]⟩,.string ⟨#[105,51,50]⟩,.string ⟨#[105,54,52]⟩] 9):=⟨_,rfl⟩
 have HZ2:Hid (ZK g w w2):=by unfold Hid; rw [hw2]; exact HZ.out.alloc _
 rw [← hw2]
 clear hw2 HZ
 go_wp2_with fail
 go_region_with (first | (go_at_call 153; refine (pX x TP HT.out _).mono ?_; rintro e wx ⟨rfl,rfl⟩) | (go_at_call 152; refine (tA t hts V TP HT2.out HN.out HD.out HV.out HL.out _).mono ?_; rintro e w3 ⟨rfl,hb3⟩; have hz3:ZK g w w3:=HZ2.out.on ((Below.refl _ _).drew.trans hb3); have HZ3:Hid (ZK g w w3):=hz3; clear hz3 hb3))
 all_goals
  have hblk:=HZ3.out.1
  unfold dM at hblk
  have c0:w3.cell? ⟨g,0,none⟩ = some (.int .u8 0):=cell_of_row _ g 0 _ _ _ hblk
  have c1:w3.cell? ⟨g,1,none⟩ = some (.string ⟨#[]⟩):=cell_of_row _ g 1 _ _ _ hblk
  have c2:w3.cell? ⟨g,2,none⟩ = some (.int .u64 0):=cell_of_row _ g 2 _ _ _ hblk
  have c3:w3.cell? ⟨g,3,none⟩ = some (.int .i64 0):=cell_of_row _ g 3 _ _ _ hblk
  have c4:w3.cell? ⟨g,4,none⟩ = some (.int .i64 0):=cell_of_row _ g 4 _ _ _ hblk
  have c5:w3.cell? ⟨g,5,none⟩ = some (.int .i64 0):=cell_of_row _ g 5 _ _ _ hblk
  have c6:w3.cell? ⟨g,6,none⟩ = some (.int .i64 0):=cell_of_row _ g 6 _ _ _ hblk
  have f0:∀ j,w3.frozen? ⟨g,j,none⟩ = false:=fun j=>by simp [World.frozen?,hblk]
  have HBK:=hI hblk
  clear hblk
  go_wp2
  refine aC (g:=g) (t:=86) rfl rfl rfl (dR _ _ _ _ _ _ _ _ _ _ _ _ _ _ _ _ _ _ HBK.out) Tryz.underlying86 rfl (by kernel_rfl) ?_
  exact ⟨rfl,by rw [← HG.out]; exact dT HZ3.out.2.1 (Nat.le_refl _)⟩
theorem jU0 (s:ByteArray) (p E F V TP:Nat) (x t:ByteArray) (hp:p < s.size) (h:s.size≤1048576) (hE:p + mU ((aD s).drop p) = E) (hpE:p < E) (hEs:E≤s.size) (ht:s.extract p E = t)
    (hx:fF ((aD s).drop E) nO = x) (hF:E + x.size = F) (hFs:F≤s.size) (hts:t.size≤1048576) (hTP:lL (aD x) = TP) (hTP2:TP = 255∨TP = 4294967295∨TP = 18446744073709551615) (hne:aD t ≠ []) (hd:∀ c ∈ aD t,aY c = true) (hV:oZ (aD t) = V) (hle:V≤TP)
    (hlt:F < s.size) (c:Nat) (hc:(s[F]'hlt).toNat = c) (HC:Hid (cO c = false)) (w:World) :
    Calls Tryz.prog 133 #[.string s,.int .i64 (p:Int)] w fun e w'=>e = .returned (fJ 2 V p F x)∧Below w.heap.size w w':=by
 have HE:=hI hE
 have HX:=hI hx
 have HF:=hI hF
 have HT:=hI hTP
 have HT2:=hI hTP2
 have HN:=hI hne
 have HD:=hI hd
 have HV:=hI hV
 have HL:=hI hle
 have hFi:(E:Int) + (x.size:Int) = (F:Int):=by omega
 have hFj:(p:Int)≤(E:Int):=by omega
 have hFn:(F:Int) < (s.size:Int):=by omega
 obtain ⟨u,hu⟩:∃ u,Hid (s.extract E s.size = u):=⟨_,rfl⟩
 have hue:s.extract E s.size = u:=hu.out
 have HUB:Hid (aD u = (aD s).drop E):=by unfold Hid; rw [← hue]; exact iG s E hEs
 have hus:u.size≤1048576:=by rw [← hue,kX s E hEs]; omega
 clear hE hx hF hTP hTP2 hne hd hV hle
 obtain ⟨g,hg⟩:∃ g,g = w.heap.size:=⟨_,rfl⟩
 have HG:=hI hg
 go_enter Tryz.func133,Tryz.ntmps133
 go_wp2_with fail
 refine (gY s p p E [2] (w.heap.size + 1) 1 _ rfl (by omega) h rfl (by omega) (by rw [bV0]; exact HE.out) (lU w _ 2 (by omega) 2 rfl _)).mono ?_
 rintro e wx ⟨rfl,rfl⟩
 obtain ⟨w1,hw1⟩:∃ w1,w1 = (w.alloc dM).alloc (.cells #[.int .u8 2] 114):=⟨_,rfl⟩
 have HZ:Hid (ZK g w w1):=by unfold Hid; rw [hw1]; exact (ZK.new hg).alloc _
 unfold dM at hw1
 rw [← hw1,← hg]
 clear hw1 hg
 go_wp2_with fail
 refine (lD u hus nO w1.heap.size 3 _ rfl (by omega) qC x (by rw [HUB.out]; exact HX.out) (nV w1)).mono ?_
 rintro e wx ⟨rfl,rfl⟩
 obtain ⟨w2,hw2⟩:∃ w2,w2 = w1.alloc (.cells #[.string ⟨#[105,56]⟩,.string ⟨#[105,51,50]⟩,.string ⟨#[105,54,52]⟩] 9):=⟨_,rfl⟩
 have HZ2:Hid (ZK g w w2):=by unfold Hid; rw [hw2]; exact HZ.out.alloc _
 rw [← hw2]
 clear hw2 HZ
 go_wp2_with fail
 go_region_with (first | (go_at_call 153; refine (pX x TP HT.out _).mono ?_; rintro e wx ⟨rfl,rfl⟩) | (go_at_call 152; refine (tA t hts V TP HT2.out HN.out HD.out HV.out HL.out _).mono ?_; rintro e w3 ⟨rfl,hb3⟩; have hz3:ZK g w w3:=HZ2.out.on ((Below.refl _ _).drew.trans hb3); have HZ3:Hid (ZK g w w3):=hz3; clear hz3 hb3))
 all_goals
  go_wp2_with fail
  refine (eW [1,2] w3.heap.size 2 c _ rfl (by omega) false (by rw [aY0]; exact HC.out) (sY w3 1 2 (by omega) (by omega) 1 2 rfl rfl _)).mono ?_
  rintro e wx ⟨rfl,rfl⟩
  obtain ⟨w4,hw4⟩:∃ w4,w4 = w3.alloc (.cells #[.int .u8 1,.int .u8 2] 114):=⟨_,rfl⟩
  have HZ4:Hid (ZK g w w4):=by unfold Hid; rw [hw4]; exact HZ3.out.alloc _
  rw [← hw4]
  clear hw4 HZ3
  have HZ3:=HZ4
  have hblk:=HZ3.out.1
  unfold dM at hblk
  have c0:w4.cell? ⟨g,0,none⟩ = some (.int .u8 0):=cell_of_row _ g 0 _ _ _ hblk
  have c1:w4.cell? ⟨g,1,none⟩ = some (.string ⟨#[]⟩):=cell_of_row _ g 1 _ _ _ hblk
  have c2:w4.cell? ⟨g,2,none⟩ = some (.int .u64 0):=cell_of_row _ g 2 _ _ _ hblk
  have c3:w4.cell? ⟨g,3,none⟩ = some (.int .i64 0):=cell_of_row _ g 3 _ _ _ hblk
  have c4:w4.cell? ⟨g,4,none⟩ = some (.int .i64 0):=cell_of_row _ g 4 _ _ _ hblk
  have c5:w4.cell? ⟨g,5,none⟩ = some (.int .i64 0):=cell_of_row _ g 5 _ _ _ hblk
  have c6:w4.cell? ⟨g,6,none⟩ = some (.int .i64 0):=cell_of_row _ g 6 _ _ _ hblk
  have f0:∀ j,w4.frozen? ⟨g,j,none⟩ = false:=fun j=>by simp [World.frozen?,hblk]
  have HBK:=hI hblk
  clear hblk
  go_wp2
  refine aC (g:=g) (t:=86) rfl rfl rfl (dR _ _ _ _ _ _ _ _ _ _ _ _ _ _ _ _ _ _ HBK.out) Tryz.underlying86 rfl (by kernel_rfl) ?_
  exact ⟨rfl,by rw [← HG.out]; exact dT HZ3.out.2.1 (Nat.le_refl _)⟩
theorem mM0 (s:ByteArray) (p E F V TP:Nat) (x t:ByteArray) (hp:p < s.size) (h:s.size≤1048576) (hE:p + mU ((aD s).drop p) = E) (hpE:p < E) (hEs:E≤s.size) (ht:s.extract p E = t)
    (hx:fF ((aD s).drop E) nO = x) (hF:E + x.size = F) (hFs:F≤s.size) (hts:t.size≤1048576) (hTP:lL (aD x) = TP) (hTP2:TP = 255∨TP = 4294967295∨TP = 18446744073709551615) (hne:aD t ≠ []) (hd:∀ c ∈ aD t,aY c = true) (hV:oZ (aD t) = V) (hle:V≤TP)
    (hlt:F < s.size) (c:Nat) (hc:(s[F]'hlt).toNat = c) (HC:Hid (cO c = true)) (w:World) :
    Calls Tryz.prog 133 #[.string s,.int .i64 (p:Int)] w fun e w'=>e = .returned (eP p p 33)∧Below w.heap.size w w':=by
 have HE:=hI hE
 have HX:=hI hx
 have HF:=hI hF
 have HT:=hI hTP
 have HT2:=hI hTP2
 have HN:=hI hne
 have HD:=hI hd
 have HV:=hI hV
 have HL:=hI hle
 have hFi:(E:Int) + (x.size:Int) = (F:Int):=by omega
 have hFj:(p:Int)≤(E:Int):=by omega
 have hFn:(F:Int) < (s.size:Int):=by omega
 obtain ⟨u,hu⟩:∃ u,Hid (s.extract E s.size = u):=⟨_,rfl⟩
 have hue:s.extract E s.size = u:=hu.out
 have HUB:Hid (aD u = (aD s).drop E):=by unfold Hid; rw [← hue]; exact iG s E hEs
 have hus:u.size≤1048576:=by rw [← hue,kX s E hEs]; omega
 clear hE hx hF hTP hTP2 hne hd hV hle
 obtain ⟨g,hg⟩:∃ g,g = w.heap.size:=⟨_,rfl⟩
 have HG:=hI hg
 go_enter Tryz.func133,Tryz.ntmps133
 go_wp2_with fail
 refine (gY s p p E [2] (w.heap.size + 1) 1 _ rfl (by omega) h rfl (by omega) (by rw [bV0]; exact HE.out) (lU w _ 2 (by omega) 2 rfl _)).mono ?_
 rintro e wx ⟨rfl,rfl⟩
 obtain ⟨w1,hw1⟩:∃ w1,w1 = (w.alloc dM).alloc (.cells #[.int .u8 2] 114):=⟨_,rfl⟩
 have HZ:Hid (ZK g w w1):=by unfold Hid; rw [hw1]; exact (ZK.new hg).alloc _
 unfold dM at hw1
 rw [← hw1,← hg]
 clear hw1 hg
 go_wp2_with fail
 refine (lD u hus nO w1.heap.size 3 _ rfl (by omega) qC x (by rw [HUB.out]; exact HX.out) (nV w1)).mono ?_
 rintro e wx ⟨rfl,rfl⟩
 obtain ⟨w2,hw2⟩:∃ w2,w2 = w1.alloc (.cells #[.string ⟨#[105,56]⟩,.string ⟨#[105,51,50]⟩,.string ⟨#[105,54,52]⟩] 9):=⟨_,rfl⟩
 have HZ2:Hid (ZK g w w2):=by unfold Hid; rw [hw2]; exact HZ.out.alloc _
 rw [← hw2]
 clear hw2 HZ
 go_wp2_with fail
 go_region_with (first | (go_at_call 153; refine (pX x TP HT.out _).mono ?_; rintro e wx ⟨rfl,rfl⟩) | (go_at_call 152; refine (tA t hts V TP HT2.out HN.out HD.out HV.out HL.out _).mono ?_; rintro e w3 ⟨rfl,hb3⟩; have hz3:ZK g w w3:=HZ2.out.on ((Below.refl _ _).drew.trans hb3); have HZ3:Hid (ZK g w w3):=hz3; clear hz3 hb3))
 all_goals
  go_wp2_with fail
  refine (eW [1,2] w3.heap.size 2 c _ rfl (by omega) true (by rw [aY0]; exact HC.out) (sY w3 1 2 (by omega) (by omega) 1 2 rfl rfl _)).mono ?_
  rintro e wx ⟨rfl,rfl⟩
  obtain ⟨w4,hw4⟩:∃ w4,w4 = w3.alloc (.cells #[.int .u8 1,.int .u8 2] 114):=⟨_,rfl⟩
  have HZ4:Hid (ZK g w w4):=by unfold Hid; rw [hw4]; exact HZ3.out.alloc _
  rw [← hw4]
  clear hw4
  go_wp2_with fail
  refine (kZ p p 33 _).mono ?_
  rintro e w5 ⟨rfl,hb5⟩
  unfold eP
  have hz5:ZK g w w5:=HZ4.out.on hb5
  have HZ3:=hI hz5
  clear hz5 hb5
  have hblk:=HZ3.out.1
  unfold dM at hblk
  have c0:w5.cell? ⟨g,0,none⟩ = some (.int .u8 0):=cell_of_row _ g 0 _ _ _ hblk
  have c1:w5.cell? ⟨g,1,none⟩ = some (.string ⟨#[]⟩):=cell_of_row _ g 1 _ _ _ hblk
  have c2:w5.cell? ⟨g,2,none⟩ = some (.int .u64 0):=cell_of_row _ g 2 _ _ _ hblk
  have c3:w5.cell? ⟨g,3,none⟩ = some (.int .i64 0):=cell_of_row _ g 3 _ _ _ hblk
  have c4:w5.cell? ⟨g,4,none⟩ = some (.int .i64 0):=cell_of_row _ g 4 _ _ _ hblk
  have c5:w5.cell? ⟨g,5,none⟩ = some (.int .i64 0):=cell_of_row _ g 5 _ _ _ hblk
  have c6:w5.cell? ⟨g,6,none⟩ = some (.int .i64 0):=cell_of_row _ g 6 _ _ _ hblk
  have f0:∀ j,w5.frozen? ⟨g,j,none⟩ = false:=fun j=>by simp [World.frozen?,hblk]
  have HBK:=hI hblk
  clear hblk
  go_wp2
  refine aC (g:=g) (t:=86) rfl rfl rfl (dR _ _ _ _ _ _ _ _ _ _ _ _ _ _ _ _ _ _ HBK.out) Tryz.underlying86 rfl (by kernel_rfl) ?_
  exact ⟨rfl,by rw [← HG.out]; exact dT HZ3.out.2.1 (Nat.le_refl _)⟩
theorem sC0 (s:ByteArray) (p E F V TP:Nat) (x t:ByteArray) (hp:p < s.size) (h:s.size≤1048576) (hE:p + mU ((aD s).drop p) = E) (hpE:p < E) (hEs:E≤s.size) (ht:s.extract p E = t)
    (hx:fF ((aD s).drop E) nO = x) (hF:E + x.size = F) (hFs:F≤s.size) (hts:t.size≤1048576) (hTP:lL (aD x) = TP) (hTP2:TP = 255∨TP = 4294967295∨TP = 18446744073709551615) (hne:aD t ≠ []) (hd:∀ c ∈ aD t,aY c = true) (hV:oZ (aD t) = V) (hle:¬ V≤TP)
     (w:World) (HLD:Hid (jM w)) :
    Calls Tryz.prog 133 #[.string s,.int .i64 (p:Int)] w fun e w'=>e = .returned (eP p p 33)∧Below w.heap.size w w':=by
 have HE:=hI hE
 have HX:=hI hx
 have HF:=hI hF
 have HT:=hI hTP
 have HT2:=hI hTP2
 have HN:=hI hne
 have HD:=hI hd
 have HV:=hI hV
 have HL:=hI hle
 have hFi:(E:Int) + (x.size:Int) = (F:Int):=by omega
 have hFj:(p:Int)≤(E:Int):=by omega
 obtain ⟨u,hu⟩:∃ u,Hid (s.extract E s.size = u):=⟨_,rfl⟩
 have hue:s.extract E s.size = u:=hu.out
 have HUB:Hid (aD u = (aD s).drop E):=by unfold Hid; rw [← hue]; exact iG s E hEs
 have hus:u.size≤1048576:=by rw [← hue,kX s E hEs]; omega
 clear hE hx hF hTP hTP2 hne hd hV hle
 obtain ⟨g,hg⟩:∃ g,g = w.heap.size:=⟨_,rfl⟩
 have HG:=hI hg
 go_enter Tryz.func133,Tryz.ntmps133
 go_wp2_with fail
 refine (gY s p p E [2] (w.heap.size + 1) 1 _ rfl (by omega) h rfl (by omega) (by rw [bV0]; exact HE.out) (lU w _ 2 (by omega) 2 rfl _)).mono ?_
 rintro e wx ⟨rfl,rfl⟩
 obtain ⟨w1,hw1⟩:∃ w1,w1 = (w.alloc dM).alloc (.cells #[.int .u8 2] 114):=⟨_,rfl⟩
 have HZ:Hid (ZK g w w1):=by unfold Hid; rw [hw1]; exact (ZK.new hg).alloc _
 unfold dM at hw1
 rw [← hw1,← hg]
 clear hw1 hg
 go_wp2_with fail
 refine (lD u hus nO w1.heap.size 3 _ rfl (by omega) qC x (by rw [HUB.out]; exact HX.out) (nV w1)).mono ?_
 rintro e wx ⟨rfl,rfl⟩
 obtain ⟨w2,hw2⟩:∃ w2,w2 = w1.alloc (.cells #[.string ⟨#[105,56]⟩,.string ⟨#[105,51,50]⟩,.string ⟨#[105,54,52]⟩] 9):=⟨_,rfl⟩
 have HZ2:Hid (ZK g w w2):=by unfold Hid; rw [hw2]; exact HZ.out.alloc _
 rw [← hw2]
 clear hw2 HZ
 have HL2:Hid (jM w2.drew):=(HLD.out.below HZ2.out.2.1 (by rw [HG.out]; exact HLD.out.1)).on (Below.refl _ _).drew
 go_wp2_with fail
 go_region_with (first | (go_at_call 153; refine (pX x TP HT.out _).mono ?_; rintro e wx ⟨rfl,rfl⟩) | (go_at_call 152; refine (lI0 t hts V TP HT2.out HN.out HD.out HV.out HL.out _ HL2.out).mono ?_; rintro e w3 ⟨NN,rfl,hb3⟩; have hz3:ZK g w w3:=HZ2.out.on ((Below.refl _ _).drew.trans hb3); have HZ3:Hid (ZK g w w3):=hz3; clear hz3 hb3))
 all_goals
  have HZ4:=HZ3
  go_wp2_with fail
  refine (kZ p p 33 _).mono ?_
  rintro e w5 ⟨rfl,hb5⟩
  unfold eP
  have hz5:ZK g w w5:=HZ4.out.on hb5
  have HZ3:=hI hz5
  clear hz5 hb5
  have hblk:=HZ3.out.1
  unfold dM at hblk
  have c0:w5.cell? ⟨g,0,none⟩ = some (.int .u8 0):=cell_of_row _ g 0 _ _ _ hblk
  have c1:w5.cell? ⟨g,1,none⟩ = some (.string ⟨#[]⟩):=cell_of_row _ g 1 _ _ _ hblk
  have c2:w5.cell? ⟨g,2,none⟩ = some (.int .u64 0):=cell_of_row _ g 2 _ _ _ hblk
  have c3:w5.cell? ⟨g,3,none⟩ = some (.int .i64 0):=cell_of_row _ g 3 _ _ _ hblk
  have c4:w5.cell? ⟨g,4,none⟩ = some (.int .i64 0):=cell_of_row _ g 4 _ _ _ hblk
  have c5:w5.cell? ⟨g,5,none⟩ = some (.int .i64 0):=cell_of_row _ g 5 _ _ _ hblk
  have c6:w5.cell? ⟨g,6,none⟩ = some (.int .i64 0):=cell_of_row _ g 6 _ _ _ hblk
  have f0:∀ j,w5.frozen? ⟨g,j,none⟩ = false:=fun j=>by simp [World.frozen?,hblk]
  have HBK:=hI hblk
  clear hblk
  go_wp2
  refine aC (g:=g) (t:=86) rfl rfl rfl (dR _ _ _ _ _ _ _ _ _ _ _ _ _ _ _ _ _ _ HBK.out) Tryz.underlying86 rfl (by kernel_rfl) ?_
  exact ⟨rfl,by rw [← HG.out]; exact dT HZ3.out.2.1 (Nat.le_refl _)⟩
theorem cO0 (q:Nat→Bool):∀ l:List Nat,∀ c ∈ l.takeWhile q,q c = true
 | [],c,h=>by simp at h
 | d :: r,c,h=>by
  by_cases hd:q d = true
  · rw [List.takeWhile_cons,if_pos hd] at h
    rcases List.mem_cons.1 h with rfl | h'
    · exact hd
    exact cO0 q r c h'
  rw [List.takeWhile_cons,if_neg hd] at h; simp at h
theorem zY (c:Nat) (h:aY c = true):bO c = false:=by
 simp [aY] at h
 simp [bO]; omega
theorem kU0 (l:List Nat):lL l = 255∨lL l = 4294967295∨lL l = 18446744073709551615:=by
 unfold lL; split
 · exact .inl rfl
 split
 · exact .inr (.inl rfl)
 exact .inr (.inr rfl)
theorem tH0 (l:List Nat):(fF l nO).size≤l.length:=by
 rcases pI l with ⟨e,hb⟩ | ⟨e,hb⟩ | ⟨e,hb⟩ | ⟨e,_⟩
 · rw [e]; have:=congrArg List.length (gW hb); rw [List.length_append] at this; show 2≤_; simp at this; omega
 · rw [e]; have:=congrArg List.length (gW hb); rw [List.length_append] at this; show 3≤_; simp at this; omega
 · rw [e]; have:=congrArg List.length (gW hb); rw [List.length_append] at this; show 3≤_; simp at this; omega
 rw [e]; exact Nat.zero_le _
theorem fZ0 (s:ByteArray) (y:Int) (p c:Nat) (hy:y = p) (hp:p < s.size) (h:s.size≤1048576) (hc:(s[p]'hp).toNat = c) (hd:aY c = true) (w:World) (hL:jM w) :
    Calls Tryz.prog 133 #[.string s,.int .i64 y] w fun e w'=>e = .returned (fN p (eU ((aD s).drop p)))∧Below w.heap.size w w':=by
 subst hy
 have hdrop:=bY s p hp
 rw [hc] at hdrop
 obtain ⟨l,hl⟩:=iQ ((aD s).drop p)
 have hll:l.length = s.size - p:=by rw [← hl,List.length_drop,aK]
 have hone:=hC0 l c _ (hl.symm.trans hdrop) (zY c hd) hd
 obtain ⟨D,hD⟩:=iQ (mU l)
 have hD1:1≤D:=by rw [← hD,← hl,hdrop,rT _ _ hd]; omega
 have hD2:D≤l.length:=by rw [← hD]; exact gK0 l
 obtain ⟨t,ht⟩:=iQ (s.extract p (p + D))
 have htb:aD t = l.takeWhile aY:=by
  rw [← ht,eM,Nat.add_sub_cancel_left,hl,← hD]; exact eI aY l
 have hlen:(l.takeWhile aY).length = D:=hD
 have hts:t.size = D:=by rw [← aK,htb,hlen]
 have hdE:(aD s).drop (p + D) = l.drop D:=by rw [← hl,List.drop_drop]
 obtain ⟨x,hx⟩:=iQ (fF (l.drop D) nO)
 have hxs:x.size≤l.length - D:=by rw [← hx]; have:=tH0 (l.drop D); rwa [List.length_drop] at this
 have hne:aD t ≠ []:=by intro e; rw [htb] at e; rw [e] at hlen; simp at hlen; omega
 have hdg:∀ c ∈ aD t,aY c = true:=by rw [htb]; exact cO0 aY l
 obtain ⟨V,hV⟩:=iQ (oZ (aD t))
 have hV':oZ (l.takeWhile aY) = V:=by rw [← htb]; exact hV
 obtain ⟨TP,hTP⟩:=iQ (lL (aD x))
 have hTP2:TP = 255∨TP = 4294967295∨TP = 18446744073709551615:=by rw [← hTP]; exact kU0 _
 have hE:p + mU ((aD s).drop p) = p + D:=by rw [hl,hD]
 rw [hlen,hV'] at hone
 obtain ⟨F,hF⟩:=iQ (p + D + x.size)
 have hdF:(l.drop D).drop x.size = (aD s).drop F:=by rw [← hdE,List.drop_drop,hF]
 rw [hl]
 by_cases hle:V≤TP
 · by_cases hend:F = s.size
   · have hstop:∀ c r,(l.drop D).drop x.size = c :: r→cO c = false:=by
      intro c r e; rw [hdF,hend,hH] at e; cases e
     obtain ⟨e1,e2⟩:=aI0 (l.drop D) x hx hstop
     rw [e1,if_pos ⟨e2,by rw [hTP]; exact hle⟩,aK] at hone
     rw [hone]
     refine (oZ0 s p (p + D) F V TP x t hp h hE (by omega) (by omega) ht (by rw [hdE]; exact hx) hF (by omega) (by omega) hTP hTP2 hne hdg hV hle hend w).mono ?_
     rintro e w' ⟨rfl,hb⟩
     refine ⟨?_,hb⟩
     show _ = Ending.returned (fJ 2 V p ((p + (D + x.size):Nat):Int) (bJ (aD x)))
     rw [mS,show ((p + (D + x.size):Nat):Int) = (F:Int) by omega]
   have hlt:F < s.size:=by omega
   have hcF:=bY s F hlt
   obtain ⟨d,hdd⟩:=iQ ((s[F]'hlt).toNat)
   rw [hdd] at hcF
   by_cases hw:cO d = true
   · have e1:=dX0 (l.drop D) x hx d _ (hdF.trans hcF) hw
     rw [e1,if_neg (by simp)] at hone
     rw [hone]
     refine (mM0 s p (p + D) F V TP x t hp h hE (by omega) (by omega) ht (by rw [hdE]; exact hx) hF (by omega) (by omega) hTP hTP2 hne hdg hV hle hlt d hdd hw w).mono ?_
     rintro e w' ⟨rfl,hb⟩
     exact ⟨rfl,hb⟩
   have hw':cO d = false:=by simpa using hw
   have hstop:∀ c r,(l.drop D).drop x.size = c :: r→cO c = false:=by
    intro c r e; rw [hdF,hcF] at e; obtain ⟨rfl,_⟩:=List.cons.inj e; exact hw'
   obtain ⟨e1,e2⟩:=aI0 (l.drop D) x hx hstop
   rw [e1,if_pos ⟨e2,by rw [hTP]; exact hle⟩,aK] at hone
   rw [hone]
   refine (jU0 s p (p + D) F V TP x t hp h hE (by omega) (by omega) ht (by rw [hdE]; exact hx) hF (by omega) (by omega) hTP hTP2 hne hdg hV hle hlt d hdd hw' w).mono ?_
   rintro e w' ⟨rfl,hb⟩
   refine ⟨?_,hb⟩
   show _ = Ending.returned (fJ 2 V p ((p + (D + x.size):Nat):Int) (bJ (aD x)))
   rw [mS,show ((p + (D + x.size):Nat):Int) = (F:Int) by omega]
 have hno:eU l = .error (0,33):=by
  rw [hone]
  by_cases hstop:∀ c r,(l.drop D).drop x.size = c :: r→cO c = false
  · obtain ⟨e1,e2⟩:=aI0 (l.drop D) x hx hstop
    rw [e1,if_neg (by rw [hTP]; exact fun q=>hle q.2)]
  have:∃ c r,(l.drop D).drop x.size = c :: r∧cO c = true:=by
   cases hq:(l.drop D).drop x.size with
   | nil=>exact absurd (fun c r e=>by rw [hq] at e; cases e) hstop
   | cons c r=>?_
   refine ⟨c,r,rfl,?_⟩
   cases hw:cO c with
   | true=>rfl
   | false=>exact absurd (fun c' r' e=>by rw [hq] at e; obtain ⟨rfl,_⟩:=List.cons.inj e; exact hw) hstop
  obtain ⟨c',r',e,hw⟩:=this
  rw [dX0 (l.drop D) x hx c' r' e hw,if_neg (by simp)]
 rw [hno]
 refine (sC0 s p (p + D) F V TP x t hp h hE (by omega) (by omega) ht (by rw [hdE]; exact hx) hF (by omega) (by omega) hTP hTP2 hne hdg hV hle w hL).mono ?_
 rintro e w' ⟨rfl,hb⟩
 exact ⟨rfl,hb⟩
theorem aP1 (l:List Nat):fF l jQ = match kD l with | none=>⟨#[]⟩ | some y=>bJ y:=by
 unfold fF kD
 rw [← yC,List.find?_map]
 show (jQ.find? ((fun x=>dG l x) ∘ aD)).getD ⟨#[]⟩ = _
 cases jQ.find? ((fun x=>dG l x) ∘ aD) with
 | none=>rfl
 | some y=>show y = bJ (aD y); rw [mS]
theorem vP (j:Nat):(jQ.getD j ⟨#[]⟩).size≤10:=by
 by_cases h:j < 31
 · have:=xM j h; omega
 rw [List.getD_eq_getElem?_getD,List.getElem?_eq_none (by show 31≤j; omega)]; exact Nat.zero_le _
theorem wV : ∀ y ∈ fY,1≤y.length∧y.length≤2∧(∀ c ∈ y,c < 256):=by decide
theorem mU0 {l y:List Nat} (h:kD l = some y):dG l y = true∧1≤y.length∧¬ aD (bJ y) = []∧aD (bJ y) = y:=by
 unfold kD at h
 have h1:=List.find?_some h
 have h2:=wV y (List.mem_of_find?_eq_some h)
 have h3:=gK y h2.2.2
 refine ⟨h1,h2.1,?_,h3⟩
 rw [h3]; intro e; rw [e] at h2; simp at h2
theorem tQ (w:World) (j:Nat) (h:j < 31):(w.alloc (.cells tK 9)).cell? ⟨w.heap.size,j,none⟩ = some (.string (jQ.getD j ⟨#[]⟩)) :=
 (cell_of_row _ _ j _ _ _ (heap_alloc_new _ _)).trans (dM0 j h)
theorem yL (s:ByteArray) (a b:Nat) (l:List Nat) (h:((aD s).drop a).take (b - a) = l):s.extract a b = bJ l:=nR s a b l h
theorem fB0 (s:ByteArray) (p c E:Nat) (x:ByteArray) (R:Value) (hp:p < s.size) (h:s.size≤1048576) (hc:(s[p]'hp).toNat = c) (HL:Hid (bO c = true)) (HE:Hid (p + fL ((aD s).drop p) = E)) (hpE:p≤E) (hEs:E≤s.size) (HX:Hid (s.extract p E = x)) (HR:Hid (fJ 1 0 p E x = R)) (w:World) :
    Calls Tryz.prog 107 #[.string s,.int .i64 (p:Int)] w fun e w'=>e = .returned R∧Below w.heap.size w w':=by
 obtain ⟨g,hg⟩:∃ g,g = w.heap.size:=⟨_,rfl⟩
 have HG:=hI hg
 go_enter Tryz.func107,Tryz.ntmps107
 go_wp2_with fail
 refine (eW [1] (w.heap.size + 1) 1 c _ rfl (by omega) true (by rw [bZ0]; exact HL.out) (lU w _ 1 (by omega) 1 rfl _)).mono ?_
 rintro e wx ⟨rfl,rfl⟩
 obtain ⟨w1,hw1⟩:∃ w1,w1 = (w.alloc dM).alloc (.cells #[.int .u8 1] 114):=⟨_,rfl⟩
 have HZ:Hid (ZK g w w1):=by unfold Hid; rw [hw1]; exact (ZK.new hg).alloc _
 unfold dM at hw1
 rw [← hw1,← hg]
 clear hw1 hg
 go_wp2_with fail
 refine (gY s p p E [1,2] w1.heap.size 2 _ rfl (by omega) h rfl (by omega) (by rw [aY0]; exact HE.out) (sY w1 1 2 (by omega) (by omega) 1 2 rfl rfl _)).mono ?_
 rintro e wx ⟨rfl,rfl⟩
 obtain ⟨w2,hw2⟩:∃ w2,w2 = w1.alloc (.cells #[.int .u8 1,.int .u8 2] 114):=⟨_,rfl⟩
 have HZ2:Hid (ZK g w w2):=by unfold Hid; rw [hw2]; exact HZ.out.alloc _
 rw [← hw2]
 clear hw2 HZ
 go_wp2_with fail
 refine (yY 1 s p E p E x rfl rfl hpE hEs h HX.out _).mono ?_
 rintro e w9 ⟨rfl,hb9⟩
 have hz9:ZK g w w9:=HZ2.out.on hb9
 have HZ3:=hI hz9
 clear hz9 hb9
 unfold fJ
 have hblk:=HZ3.out.1
 unfold dM at hblk
 have c0:w9.cell? ⟨g,0,none⟩ = some (.int .u8 0):=cell_of_row _ g 0 _ _ _ hblk
 have c1:w9.cell? ⟨g,1,none⟩ = some (.string ⟨#[]⟩):=cell_of_row _ g 1 _ _ _ hblk
 have c2:w9.cell? ⟨g,2,none⟩ = some (.int .u64 0):=cell_of_row _ g 2 _ _ _ hblk
 have c3:w9.cell? ⟨g,3,none⟩ = some (.int .i64 0):=cell_of_row _ g 3 _ _ _ hblk
 have c4:w9.cell? ⟨g,4,none⟩ = some (.int .i64 0):=cell_of_row _ g 4 _ _ _ hblk
 have c5:w9.cell? ⟨g,5,none⟩ = some (.int .i64 0):=cell_of_row _ g 5 _ _ _ hblk
 have c6:w9.cell? ⟨g,6,none⟩ = some (.int .i64 0):=cell_of_row _ g 6 _ _ _ hblk
 have f0:∀ j,w9.frozen? ⟨g,j,none⟩ = false:=fun j=>by simp [World.frozen?,hblk]
 have HBK:=hI hblk
 clear hblk
 go_wp2
 refine aC (g:=g) (t:=86) rfl rfl rfl (dR _ _ _ _ _ _ _ _ _ _ _ _ _ _ _ _ _ _ HBK.out) Tryz.underlying86 rfl (by kernel_rfl) ?_
 exact ⟨by rw [← HR.out] <;> rfl,by rw [← HG.out]; exact dT HZ3.out.2.1 (Nat.le_refl _)⟩
theorem kX0 (s:ByteArray) (p c:Nat) (a0:Int) (a1:ByteArray) (a2 a3 a4 a5 a6:Int) (R:Value) (hp:p < s.size) (h:s.size≤1048576) (hc:(s[p]'hp).toNat = c) (HL:Hid (bO c = false)) (HD:Hid (aY c = true)) (HF:Hid (fN p (eU ((aD s).drop p)) = .agg #[.int .u8 a0,.string a1,.int .u64 a2,.int .i64 a3,.int .i64 a4,.int .i64 a5,.int .i64 a6])) (HR:Hid (.agg #[.int .u8 a0,.string a1,.int .u64 a2,.int .i64 a3,.int .i64 a4,.int .i64 a5,.int .i64 a6] = R)) (w:World) (HLD:Hid (jM w)) :
    Calls Tryz.prog 107 #[.string s,.int .i64 (p:Int)] w fun e w'=>e = .returned R∧Below w.heap.size w w':=by
 obtain ⟨g,hg⟩:∃ g,g = w.heap.size:=⟨_,rfl⟩
 have HG:=hI hg
 go_enter Tryz.func107,Tryz.ntmps107
 go_wp2_with fail
 refine (eW [1] (w.heap.size + 1) 1 c _ rfl (by omega) false (by rw [bZ0]; exact HL.out) (lU w _ 1 (by omega) 1 rfl _)).mono ?_
 rintro e wx ⟨rfl,rfl⟩
 obtain ⟨w1,hw1⟩:∃ w1,w1 = (w.alloc dM).alloc (.cells #[.int .u8 1] 114):=⟨_,rfl⟩
 have HZ:Hid (ZK g w w1):=by unfold Hid; rw [hw1]; exact (ZK.new hg).alloc _
 unfold dM at hw1
 rw [← hw1,← hg]
 clear hw1 hg
 go_wp2_with fail
 refine (eW [2] w1.heap.size 1 c _ rfl (by omega) true (by rw [bV0]; exact HD.out) (lM w1 2 (by omega) 2 rfl _)).mono ?_
 rintro e wx ⟨rfl,rfl⟩
 obtain ⟨w2,hw2⟩:∃ w2,w2 = w1.alloc (.cells #[.int .u8 2] 114):=⟨_,rfl⟩
 have HZ2:Hid (ZK g w w2):=by unfold Hid; rw [hw2]; exact HZ.out.alloc _
 rw [← hw2]
 clear hw2 HZ
 have HL2:Hid (jM w2):=HLD.out.below HZ2.out.2.1 (by rw [HG.out]; exact HLD.out.1)
 go_wp2_with fail
 refine (fZ0 s p p c rfl hp h hc HD.out _ HL2.out).mono ?_
 rintro e w9 ⟨rfl,hb9⟩
 have hz9:ZK g w w9:=HZ2.out.on hb9
 have HZ3:=hI hz9
 clear hz9 hb9
 rw [HF.out]
 have hblk:=HZ3.out.1
 unfold dM at hblk
 have c0:w9.cell? ⟨g,0,none⟩ = some (.int .u8 0):=cell_of_row _ g 0 _ _ _ hblk
 have c1:w9.cell? ⟨g,1,none⟩ = some (.string ⟨#[]⟩):=cell_of_row _ g 1 _ _ _ hblk
 have c2:w9.cell? ⟨g,2,none⟩ = some (.int .u64 0):=cell_of_row _ g 2 _ _ _ hblk
 have c3:w9.cell? ⟨g,3,none⟩ = some (.int .i64 0):=cell_of_row _ g 3 _ _ _ hblk
 have c4:w9.cell? ⟨g,4,none⟩ = some (.int .i64 0):=cell_of_row _ g 4 _ _ _ hblk
 have c5:w9.cell? ⟨g,5,none⟩ = some (.int .i64 0):=cell_of_row _ g 5 _ _ _ hblk
 have c6:w9.cell? ⟨g,6,none⟩ = some (.int .i64 0):=cell_of_row _ g 6 _ _ _ hblk
 have f0:∀ j,w9.frozen? ⟨g,j,none⟩ = false:=fun j=>by simp [World.frozen?,hblk]
 have HBK:=hI hblk
 clear hblk
 go_wp2
 refine aC (g:=g) (t:=86) rfl rfl rfl (dR _ _ _ _ _ _ _ _ _ _ _ _ _ _ _ _ _ _ HBK.out) Tryz.underlying86 rfl (by kernel_rfl) ?_
 exact ⟨by rw [← HR.out] <;> rfl,by rw [← HG.out]; exact dT HZ3.out.2.1 (Nat.le_refl _)⟩
theorem fY0 (s:ByteArray) (p:Nat) (a0:Int) (a1:ByteArray) (a2 a3 a4 a5 a6:Int) (R:Value) (hp:p < s.size) (h:s.size≤1048576) (hc:(s[p]'hp).toNat = 34) (HF:Hid (pL p (T ((aD s).drop (p + 1))) = .agg #[.int .u8 a0,.string a1,.int .u64 a2,.int .i64 a3,.int .i64 a4,.int .i64 a5,.int .i64 a6])) (HR:Hid (.agg #[.int .u8 a0,.string a1,.int .u64 a2,.int .i64 a3,.int .i64 a4,.int .i64 a5,.int .i64 a6] = R)) (w:World) :
    Calls Tryz.prog 107 #[.string s,.int .i64 (p:Int)] w fun e w'=>e = .returned R∧Below w.heap.size w w':=by
 have HL:Hid (bO 34 = false):=rfl
 have HD:Hid (aY 34 = false):=rfl
 obtain ⟨g,hg⟩:∃ g,g = w.heap.size:=⟨_,rfl⟩
 have HG:=hI hg
 go_enter Tryz.func107,Tryz.ntmps107
 go_wp2_with fail
 refine (eW [1] (w.heap.size + 1) 1 34 _ rfl (by omega) false (by rw [bZ0]; exact HL.out) (lU w _ 1 (by omega) 1 rfl _)).mono ?_
 rintro e wx ⟨rfl,rfl⟩
 obtain ⟨w1,hw1⟩:∃ w1,w1 = (w.alloc dM).alloc (.cells #[.int .u8 1] 114):=⟨_,rfl⟩
 have HZ:Hid (ZK g w w1):=by unfold Hid; rw [hw1]; exact (ZK.new hg).alloc _
 unfold dM at hw1
 rw [← hw1,← hg]
 clear hw1 hg
 go_wp2_with fail
 refine (eW [2] w1.heap.size 1 34 _ rfl (by omega) false (by rw [bV0]; exact HD.out) (lM w1 2 (by omega) 2 rfl _)).mono ?_
 rintro e wx ⟨rfl,rfl⟩
 obtain ⟨w2,hw2⟩:∃ w2,w2 = w1.alloc (.cells #[.int .u8 2] 114):=⟨_,rfl⟩
 have HZ2:Hid (ZK g w w2):=by unfold Hid; rw [hw2]; exact HZ.out.alloc _
 rw [← hw2]
 clear hw2 HZ
 go_wp2_with fail
 refine (tS0 s p p _ rfl hp h HF.out _).mono ?_
 rintro e w9 ⟨rfl,hb9⟩
 have hz9:ZK g w w9:=HZ2.out.on hb9
 have HZ3:=hI hz9
 clear hz9 hb9
 have hblk:=HZ3.out.1
 unfold dM at hblk
 have c0:w9.cell? ⟨g,0,none⟩ = some (.int .u8 0):=cell_of_row _ g 0 _ _ _ hblk
 have c1:w9.cell? ⟨g,1,none⟩ = some (.string ⟨#[]⟩):=cell_of_row _ g 1 _ _ _ hblk
 have c2:w9.cell? ⟨g,2,none⟩ = some (.int .u64 0):=cell_of_row _ g 2 _ _ _ hblk
 have c3:w9.cell? ⟨g,3,none⟩ = some (.int .i64 0):=cell_of_row _ g 3 _ _ _ hblk
 have c4:w9.cell? ⟨g,4,none⟩ = some (.int .i64 0):=cell_of_row _ g 4 _ _ _ hblk
 have c5:w9.cell? ⟨g,5,none⟩ = some (.int .i64 0):=cell_of_row _ g 5 _ _ _ hblk
 have c6:w9.cell? ⟨g,6,none⟩ = some (.int .i64 0):=cell_of_row _ g 6 _ _ _ hblk
 have f0:∀ j,w9.frozen? ⟨g,j,none⟩ = false:=fun j=>by simp [World.frozen?,hblk]
 have HBK:=hI hblk
 clear hblk
 go_wp2
 refine aC (g:=g) (t:=86) rfl rfl rfl (dR _ _ _ _ _ _ _ _ _ _ _ _ _ _ _ _ _ _ HBK.out) Tryz.underlying86 rfl (by kernel_rfl) ?_
 exact ⟨by rw [← HR.out] <;> rfl,by rw [← HG.out]; exact dT HZ3.out.2.1 (Nat.le_refl _)⟩
theorem gB0 (s:ByteArray) (p c F:Nat) (x:ByteArray) (R:Value) (hp:p < s.size) (h:s.size≤1048576) (hc:(s[p]'hp).toNat = c) (HL:Hid (bO c = false)) (HD:Hid (aY c = false)) (hq:((c:Int) == 34) = false)
    (HX:Hid (fF ((aD s).drop p) jQ = x)) (hxe:(x.toList == []) = false) (hxs:x.size≤10) (hF:p + x.size = F) (hFs:F≤s.size) (HE:Hid (s.extract p F = x)) (HR:Hid (fJ 4 0 p F x = R)) (w:World) :
    Calls Tryz.prog 107 #[.string s,.int .i64 (p:Int)] w fun e w'=>e = .returned R∧Below w.heap.size w w':=by
 obtain ⟨u,hu⟩:∃ u,Hid (s.extract p s.size = u):=⟨_,rfl⟩
 have hue:s.extract p s.size = u:=hu.out
 have HUB:Hid (aD u = (aD s).drop p):=by unfold Hid; rw [← hue]; exact iG s p (by omega)
 have hus:u.size≤1048576:=by rw [← hue,kX s p (by omega)]; omega
 have hFi:(p:Int) + (x.size:Int) = (F:Int):=by omega
 have hpF:p≤F:=by omega
 clear hF
 obtain ⟨g,hg⟩:∃ g,g = w.heap.size:=⟨_,rfl⟩
 have HG:=hI hg
 go_enter Tryz.func107,Tryz.ntmps107
 go_wp2_with fail
 refine (eW [1] (w.heap.size + 1) 1 c _ rfl (by omega) false (by rw [bZ0]; exact HL.out) (lU w _ 1 (by omega) 1 rfl _)).mono ?_
 rintro e wx ⟨rfl,rfl⟩
 obtain ⟨w1,hw1⟩:∃ w1,w1 = (w.alloc dM).alloc (.cells #[.int .u8 1] 114):=⟨_,rfl⟩
 have HZ:Hid (ZK g w w1):=by unfold Hid; rw [hw1]; exact (ZK.new hg).alloc _
 unfold dM at hw1
 rw [← hw1,← hg]
 clear hw1 hg
 go_wp2_with fail
 refine (eW [2] w1.heap.size 1 c _ rfl (by omega) false (by rw [bV0]; exact HD.out) (lM w1 2 (by omega) 2 rfl _)).mono ?_
 rintro e wx ⟨rfl,rfl⟩
 obtain ⟨w2,hw2⟩:∃ w2,w2 = w1.alloc (.cells #[.int .u8 2] 114):=⟨_,rfl⟩
 have HZ2:Hid (ZK g w w2):=by unfold Hid; rw [hw2]; exact HZ.out.alloc _
 rw [← hw2]
 clear hw2 HZ
 go_wp2_with fail
 refine (lD u hus jQ w2.heap.size 31 _ rfl (by omega) vP x (by rw [HUB.out]; exact HX.out) (tQ w2)).mono ?_
 rintro e wx ⟨rfl,rfl⟩
 have HZ4:Hid (ZK g w (w2.alloc (.cells tK 9))):=HZ2.out.alloc _
 obtain ⟨w4,hw4⟩:∃ w4,w4 = w2.alloc (.cells tK 9):=⟨_,rfl⟩
 rw [← hw4] at HZ4
 rw [← hw4]
 clear hw4 HZ2
 go_wp2_with fail
 refine (yY 4 s p F p F x rfl rfl hpF hFs h HE.out _).mono ?_
 rintro e w9 ⟨rfl,hb9⟩
 have hz9:ZK g w w9:=HZ4.out.on hb9
 have HZ3:=hI hz9
 clear hz9 hb9
 unfold fJ
 have hblk:=HZ3.out.1
 unfold dM at hblk
 have c0:w9.cell? ⟨g,0,none⟩ = some (.int .u8 0):=cell_of_row _ g 0 _ _ _ hblk
 have c1:w9.cell? ⟨g,1,none⟩ = some (.string ⟨#[]⟩):=cell_of_row _ g 1 _ _ _ hblk
 have c2:w9.cell? ⟨g,2,none⟩ = some (.int .u64 0):=cell_of_row _ g 2 _ _ _ hblk
 have c3:w9.cell? ⟨g,3,none⟩ = some (.int .i64 0):=cell_of_row _ g 3 _ _ _ hblk
 have c4:w9.cell? ⟨g,4,none⟩ = some (.int .i64 0):=cell_of_row _ g 4 _ _ _ hblk
 have c5:w9.cell? ⟨g,5,none⟩ = some (.int .i64 0):=cell_of_row _ g 5 _ _ _ hblk
 have c6:w9.cell? ⟨g,6,none⟩ = some (.int .i64 0):=cell_of_row _ g 6 _ _ _ hblk
 have f0:∀ j,w9.frozen? ⟨g,j,none⟩ = false:=fun j=>by simp [World.frozen?,hblk]
 have HBK:=hI hblk
 clear hblk
 go_wp2
 refine aC (g:=g) (t:=86) rfl rfl rfl (dR _ _ _ _ _ _ _ _ _ _ _ _ _ _ _ _ _ _ HBK.out) Tryz.underlying86 rfl (by kernel_rfl) ?_
 exact ⟨by rw [← HR.out] <;> rfl,by rw [← HG.out]; exact dT HZ3.out.2.1 (Nat.le_refl _)⟩
theorem gL0 (s:ByteArray) (p c:Nat) (R:Value) (hp:p < s.size) (h:s.size≤1048576) (hc:(s[p]'hp).toNat = c) (HL:Hid (bO c = false)) (HD:Hid (aY c = false)) (hq:((c:Int) == 34) = false)
    (HX0:Hid (fF ((aD s).drop p) jQ = ⟨#[]⟩)) (HR:Hid (eP p p 30 = R)) (w:World) :
    Calls Tryz.prog 107 #[.string s,.int .i64 (p:Int)] w fun e w'=>e = .returned R∧Below w.heap.size w w':=by
 obtain ⟨u,hu⟩:∃ u,Hid (s.extract p s.size = u):=⟨_,rfl⟩
 have hue:s.extract p s.size = u:=hu.out
 have HUB:Hid (aD u = (aD s).drop p):=by unfold Hid; rw [← hue]; exact iG s p (by omega)
 have hus:u.size≤1048576:=by rw [← hue,kX s p (by omega)]; omega
 obtain ⟨x,hx⟩:∃ x,Hid ((⟨#[]⟩:ByteArray) = x):=⟨_,rfl⟩
 have HX:Hid (fF ((aD s).drop p) jQ = x):=by unfold Hid; rw [← hx.out]; exact HX0.out
 have hxe:(x.toList == []) = true:=by rw [fX,← hx.out]; rfl
 obtain ⟨g,hg⟩:∃ g,g = w.heap.size:=⟨_,rfl⟩
 have HG:=hI hg
 go_enter Tryz.func107,Tryz.ntmps107
 go_wp2_with fail
 refine (eW [1] (w.heap.size + 1) 1 c _ rfl (by omega) false (by rw [bZ0]; exact HL.out) (lU w _ 1 (by omega) 1 rfl _)).mono ?_
 rintro e wx ⟨rfl,rfl⟩
 obtain ⟨w1,hw1⟩:∃ w1,w1 = (w.alloc dM).alloc (.cells #[.int .u8 1] 114):=⟨_,rfl⟩
 have HZ:Hid (ZK g w w1):=by unfold Hid; rw [hw1]; exact (ZK.new hg).alloc _
 unfold dM at hw1
 rw [← hw1,← hg]
 clear hw1 hg
 go_wp2_with fail
 refine (eW [2] w1.heap.size 1 c _ rfl (by omega) false (by rw [bV0]; exact HD.out) (lM w1 2 (by omega) 2 rfl _)).mono ?_
 rintro e wx ⟨rfl,rfl⟩
 obtain ⟨w2,hw2⟩:∃ w2,w2 = w1.alloc (.cells #[.int .u8 2] 114):=⟨_,rfl⟩
 have HZ2:Hid (ZK g w w2):=by unfold Hid; rw [hw2]; exact HZ.out.alloc _
 rw [← hw2]
 clear hw2 HZ
 go_wp2_with fail
 refine (lD u hus jQ w2.heap.size 31 _ rfl (by omega) vP x (by rw [HUB.out]; exact HX.out) (tQ w2)).mono ?_
 rintro e wx ⟨rfl,rfl⟩
 have HZ4:Hid (ZK g w (w2.alloc (.cells tK 9))):=HZ2.out.alloc _
 obtain ⟨w4,hw4⟩:∃ w4,w4 = w2.alloc (.cells tK 9):=⟨_,rfl⟩
 rw [← hw4] at HZ4
 rw [← hw4]
 clear hw4 HZ2
 go_wp2_with fail
 refine (kZ p p 30 _).mono ?_
 rintro e w9 ⟨rfl,hb9⟩
 have hz9:ZK g w w9:=HZ4.out.on hb9
 have HZ3:=hI hz9
 clear hz9 hb9
 unfold eP
 have hblk:=HZ3.out.1
 unfold dM at hblk
 have c0:w9.cell? ⟨g,0,none⟩ = some (.int .u8 0):=cell_of_row _ g 0 _ _ _ hblk
 have c1:w9.cell? ⟨g,1,none⟩ = some (.string ⟨#[]⟩):=cell_of_row _ g 1 _ _ _ hblk
 have c2:w9.cell? ⟨g,2,none⟩ = some (.int .u64 0):=cell_of_row _ g 2 _ _ _ hblk
 have c3:w9.cell? ⟨g,3,none⟩ = some (.int .i64 0):=cell_of_row _ g 3 _ _ _ hblk
 have c4:w9.cell? ⟨g,4,none⟩ = some (.int .i64 0):=cell_of_row _ g 4 _ _ _ hblk
 have c5:w9.cell? ⟨g,5,none⟩ = some (.int .i64 0):=cell_of_row _ g 5 _ _ _ hblk
 have c6:w9.cell? ⟨g,6,none⟩ = some (.int .i64 0):=cell_of_row _ g 6 _ _ _ hblk
 have f0:∀ j,w9.frozen? ⟨g,j,none⟩ = false:=fun j=>by simp [World.frozen?,hblk]
 have HBK:=hI hblk
 clear hblk
 go_wp2
 refine aC (g:=g) (t:=86) rfl rfl rfl (dR _ _ _ _ _ _ _ _ _ _ _ _ _ _ _ _ _ _ HBK.out) Tryz.underlying86 rfl (by kernel_rfl) ?_
 exact ⟨by rw [← HR.out] <;> rfl,by rw [← HG.out]; exact dT HZ3.out.2.1 (Nat.le_refl _)⟩
theorem lV (p:Nat) (o:Except (Nat × Nat) (Nat × List Nat × Nat × Nat)):∃ (a0:Int) (a1:ByteArray) (a2 a3 a4 a5 a6:Int),fN p o = .agg #[.int .u8 a0,.string a1,.int .u64 a2,.int .i64 a3,.int .i64 a4,.int .i64 a5,.int .i64 a6]:=by
 match o with
 | .ok (kd,tx,n,len)=>exact ⟨_,_,_,_,_,_,_,rfl⟩
 | .error (q,e)=>exact ⟨_,_,_,_,_,_,_,rfl⟩
theorem aQ0 (p:Nat) (r:List Nat):pL p (T r) = fN p (eU (34 :: r)):=by
 rw [cU0]
 match T r with
 | .ok (out,m)=>show fJ 3 0 p ((p + 1 + m:Nat):Int) (bJ out) = fJ 3 0 p ((p + (m + 1):Nat):Int) (bJ out); rw [show p + 1 + m = p + (m + 1) by omega]
 | .error (none,e)=>rfl
 | .error (some q,e)=>show eP p ((p + 1 + q:Nat):Int) e = eP p ((p + (q + 1):Nat):Int) e; rw [show p + 1 + q = p + (q + 1) by omega]
theorem cT0 (s:ByteArray) (y:Int) (p:Nat) (hy:y = p) (hp:p < s.size) (h:s.size≤1048576) (w:World) (hL:jM w) :
    Calls Tryz.prog 107 #[.string s,.int .i64 y] w fun e w'=>e = .returned (fN p (eU ((aD s).drop p)))∧Below w.heap.size w w':=by
 subst hy
 have hdrop:=bY s p hp
 obtain ⟨c,hc⟩:=iQ ((s[p]'hp).toNat)
 rw [hc] at hdrop
 obtain ⟨l,hl⟩:=iQ ((aD s).drop p)
 have hll:l.length = s.size - p:=by rw [← hl,List.length_drop,aK]
 have hlc:l = c :: (aD s).drop (p + 1):=hl.symm.trans hdrop
 by_cases h1:bO c = true
 · have hone:eU l = .ok (1,l.takeWhile cO,0,fL l):=by rw [hlc]; unfold eU; simp only [h1,if_true]
   have hw:=rH l
   refine fB0 s p c (p + fL l) (bJ (l.takeWhile cO)) _ hp h hc h1 (by unfold Hid; rw [hl]) (by omega) (by omega) ?_ ?_ w
   · exact yL s p _ _ (by rw [hl,Nat.add_sub_cancel_left]; exact eI cO l)
   unfold Hid; rw [hl,hone]; rfl
 have h1':bO c = false:=by simpa using h1
 by_cases h2:aY c = true
 · obtain ⟨a0,a1,a2,a3,a4,a5,a6,hsh⟩:=lV p (eU ((aD s).drop p))
   exact kX0 s p c a0 a1 a2 a3 a4 a5 a6 _ hp h hc h1' h2 hsh hsh.symm w hL
 have h2':aY c = false:=by simpa using h2
 by_cases h3:c = 34
 · subst h3
   have hf:pL p (T ((aD s).drop (p + 1))) = fN p (eU ((aD s).drop p)):=by rw [aQ0,hdrop]
   obtain ⟨a0,a1,a2,a3,a4,a5,a6,hsh⟩:=lV p (eU ((aD s).drop p))
   exact fY0 s p a0 a1 a2 a3 a4 a5 a6 _ hp h hc (hf.trans hsh) hsh.symm w
 have hone:=bE0 c ((aD s).drop (p + 1)) h1' h2' h3
 rw [← hlc] at hone
 have hq:((c:Int) == 34) = false:=by simp; omega
 have hsw:=aP1 l
 cases hx:kD l with
 | none =>
  rw [hx] at hone hsw
  refine gL0 s p c _ hp h hc h1' h2' hq (by unfold Hid; rw [hl]; exact hsw) ?_ w
  unfold Hid; rw [hl,hone]; rfl
 | some z=>?_
 rw [hx] at hone hsw
 obtain ⟨hb,hz1,hz2,hz3⟩:=mU0 hx
 have hzs:(bJ z).size = z.length:=by rw [← aK,hz3]
 have hzl:=congrArg List.length (gW hb)
 rw [List.length_append] at hzl
 have hz10:(bJ z).size≤10:=by
  have:=wV z (List.mem_of_find?_eq_some hx)
  omega
 refine gB0 s p c (p + (bJ z).size) (bJ z) _ hp h hc h1' h2' hq (by unfold Hid; rw [hl]; exact hsw) ?_ hz10 rfl (by omega) ?_ ?_ w
 · rw [fX]; simpa using hz2
 · refine yL s p _ _ ?_
   rw [hl,Nat.add_sub_cancel_left,hzs]
   unfold dG at hb; simpa using hb
 unfold Hid; rw [hl,hone,hzs]; rfl
end Go.Proofs.YtnipenijihkgdaaGreatDoor
