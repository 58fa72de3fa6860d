import Derived.Test.YtnipenijihkgdaaGreatDoorQ12
set_option maxHeartbeats 1000000
set_option maxRecDepth 100000
namespace Go.Proofs.YtnipenijihkgdaaGreatDoor
open Go.RowKit
set_option linter.unusedVariables false
theorem nA (w:World) (i:Int) (hi:0≤i∧i≤1000000000) (g:Nat) (x0 x1:Int) (ho:Own w g #[.int .u8 x0,.int .u8 x1] 44):Calls Tryz.prog 56 #[.int .i64 i,.slice (some ⟨g,0,none⟩) 2 2] w fun en w'=>en = .returned (.int .u8 (kO i [x0,x1]))∧w = w':=by
 have c0:w.cell? ⟨g,0,none⟩ = some (.int .u8 x0):=cell_of_row _ g 0 _ _ _ ho
 have c1:w.cell? ⟨g,1,none⟩ = some (.int .u8 x1):=cell_of_row _ g 1 _ _ _ ho
 clear ho
 by_cases h0:i = 0
 · subst h0
   have hmin:min (0:Int) 1 = 0:=by decide
   have hmn:(min (0:Int) 1).toNat = 0:=by decide
   go_enter Tryz.func56,Tryz.ntmps56
   go_wp2
   go_ret
   exact ⟨rfl,rfl⟩
 have hmin:min i 1 = 1:=by omega
 have hmn:(min i 1).toNat = 1:=by rw [hmin]; rfl
 have HP:Hid (kO i [x0,x1] = x1):=by
  unfold Hid kO
  show ([x0,x1].getD (min i 1).toNat 0) = _
  rw [hmn]
  rfl
 go_enter Tryz.func56,Tryz.ntmps56
 go_wp2
 go_ret
 exact ⟨by rw [HP.out]; rfl,rfl⟩
theorem yZ (w:World) (i:Int) (hi:0≤i∧i≤1000000000) (g:Nat) (x0 x1 x2:Int) (ho:Own w g #[.int .u8 x0,.int .u8 x1,.int .u8 x2] 44):Calls Tryz.prog 56 #[.int .i64 i,.slice (some ⟨g,0,none⟩) 3 3] w fun en w'=>en = .returned (.int .u8 (kO i [x0,x1,x2]))∧w = w':=by
 have c0:w.cell? ⟨g,0,none⟩ = some (.int .u8 x0):=cell_of_row _ g 0 _ _ _ ho
 have c1:w.cell? ⟨g,1,none⟩ = some (.int .u8 x1):=cell_of_row _ g 1 _ _ _ ho
 have c2:w.cell? ⟨g,2,none⟩ = some (.int .u8 x2):=cell_of_row _ g 2 _ _ _ ho
 clear ho
 by_cases h0:i = 0
 · subst h0
   have hmin:min (0:Int) 2 = 0:=by decide
   have hmn:(min (0:Int) 2).toNat = 0:=by decide
   go_enter Tryz.func56,Tryz.ntmps56
   go_wp2
   go_ret
   exact ⟨rfl,rfl⟩
 by_cases h1:i = 1
 · subst h1
   have hmin:min (1:Int) 2 = 1:=by decide
   have hmn:(min (1:Int) 2).toNat = 1:=by decide
   go_enter Tryz.func56,Tryz.ntmps56
   go_wp2
   go_ret
   exact ⟨rfl,rfl⟩
 have hmin:min i 2 = 2:=by omega
 have hmn:(min i 2).toNat = 2:=by rw [hmin]; rfl
 have HP:Hid (kO i [x0,x1,x2] = x2):=by
  unfold Hid kO
  show ([x0,x1,x2].getD (min i 2).toNat 0) = _
  rw [hmn]
  rfl
 go_enter Tryz.func56,Tryz.ntmps56
 go_wp2
 go_ret
 exact ⟨by rw [HP.out]; rfl,rfl⟩
theorem mL0 (w:World) (i:Int) (hi:0≤i∧i≤1000000000) (g:Nat) (x0 x1 x2 x3:Int) (ho:Own w g #[.int .u8 x0,.int .u8 x1,.int .u8 x2,.int .u8 x3] 44):Calls Tryz.prog 56 #[.int .i64 i,.slice (some ⟨g,0,none⟩) 4 4] w fun en w'=>en = .returned (.int .u8 (kO i [x0,x1,x2,x3]))∧w = w':=by
 have c0:w.cell? ⟨g,0,none⟩ = some (.int .u8 x0):=cell_of_row _ g 0 _ _ _ ho
 have c1:w.cell? ⟨g,1,none⟩ = some (.int .u8 x1):=cell_of_row _ g 1 _ _ _ ho
 have c2:w.cell? ⟨g,2,none⟩ = some (.int .u8 x2):=cell_of_row _ g 2 _ _ _ ho
 have c3:w.cell? ⟨g,3,none⟩ = some (.int .u8 x3):=cell_of_row _ g 3 _ _ _ ho
 clear ho
 by_cases h0:i = 0
 · subst h0
   have hmin:min (0:Int) 3 = 0:=by decide
   have hmn:(min (0:Int) 3).toNat = 0:=by decide
   go_enter Tryz.func56,Tryz.ntmps56
   go_wp2
   go_ret
   exact ⟨rfl,rfl⟩
 by_cases h1:i = 1
 · subst h1
   have hmin:min (1:Int) 3 = 1:=by decide
   have hmn:(min (1:Int) 3).toNat = 1:=by decide
   go_enter Tryz.func56,Tryz.ntmps56
   go_wp2
   go_ret
   exact ⟨rfl,rfl⟩
 by_cases h2:i = 2
 · subst h2
   have hmin:min (2:Int) 3 = 2:=by decide
   have hmn:(min (2:Int) 3).toNat = 2:=by decide
   go_enter Tryz.func56,Tryz.ntmps56
   go_wp2
   go_ret
   exact ⟨rfl,rfl⟩
 have hmin:min i 3 = 3:=by omega
 have hmn:(min i 3).toNat = 3:=by rw [hmin]; rfl
 have HP:Hid (kO i [x0,x1,x2,x3] = x3):=by
  unfold Hid kO
  show ([x0,x1,x2,x3].getD (min i 3).toNat 0) = _
  rw [hmn]
  rfl
 go_enter Tryz.func56,Tryz.ntmps56
 go_wp2
 go_ret
 exact ⟨by rw [HP.out]; rfl,rfl⟩
theorem xO0 (w:World) (r a n:Int) (b:ByteArray) (ao:Option Addr) (m cap:Nat) (hm:m≤1000000000) (i:Int) (hi:0≤i∧i≤1000000000):Calls Tryz.prog 29 #[.agg #[.int .u8 1,.int .i64 a,.string b,.int .u64 n,.slice ao m cap,.int .u8 r],.int .i64 i] w fun en w'=>en = .returned (.int .u8 (cM r 1 m i))∧Below w.heap.size w w':=by
 have hb0:Below w.heap.size w (w.alloc (.cells #[.int .u8 1,.int .i64 a,.string b,.int .u64 n,.slice ao m cap,.int .u8 r] 46)):=(Below.refl _ _).alloc (Nat.le_refl _) _
 go_enter Tryz.func29,Tryz.ntmps29
 go_wp2
 all_goals (go_ret; exact ⟨by simp [cM],hb0⟩)
theorem wJ0 (w:World) (r a n:Int) (b:ByteArray) (ao:Option Addr) (m cap:Nat) (hm:m≤1000000000) (i:Int) (hi:0≤i∧i≤1000000000):Calls Tryz.prog 29 #[.agg #[.int .u8 2,.int .i64 a,.string b,.int .u64 n,.slice ao m cap,.int .u8 r],.int .i64 i] w fun en w'=>en = .returned (.int .u8 (cM r 2 m i))∧Below w.heap.size w w':=by
 have hb0:Below w.heap.size w (w.alloc (.cells #[.int .u8 2,.int .i64 a,.string b,.int .u64 n,.slice ao m cap,.int .u8 r] 46)):=(Below.refl _ _).alloc (Nat.le_refl _) _
 go_enter Tryz.func29,Tryz.ntmps29
 go_wp2
 all_goals (go_ret; exact ⟨by simp [cM],hb0⟩)
theorem wC0 (w:World) (r a n:Int) (b:ByteArray) (ao:Option Addr) (m cap:Nat) (hm:m≤1000000000) (i:Int) (hi:0≤i∧i≤1000000000):Calls Tryz.prog 29 #[.agg #[.int .u8 5,.int .i64 a,.string b,.int .u64 n,.slice ao m cap,.int .u8 r],.int .i64 i] w fun en w'=>en = .returned (.int .u8 (cM r 5 m i))∧Below w.heap.size w w':=by
 have hb0:Below w.heap.size w (w.alloc (.cells #[.int .u8 5,.int .i64 a,.string b,.int .u64 n,.slice ao m cap,.int .u8 r] 46)):=(Below.refl _ _).alloc (Nat.le_refl _) _
 go_enter Tryz.func29,Tryz.ntmps29
 go_wp2
 all_goals (go_ret; exact ⟨by simp [cM],hb0⟩)
theorem wS0 (w:World) (r a n:Int) (b:ByteArray) (ao:Option Addr) (m cap:Nat) (hm:m≤1000000000) (i:Int) (hi:0≤i∧i≤1000000000):Calls Tryz.prog 29 #[.agg #[.int .u8 3,.int .i64 a,.string b,.int .u64 n,.slice ao m cap,.int .u8 r],.int .i64 i] w fun en w'=>en = .returned (.int .u8 (cM r 3 m i))∧Below w.heap.size w w':=by
 have hb0:Below w.heap.size w (w.alloc (.cells #[.int .u8 3,.int .i64 a,.string b,.int .u64 n,.slice ao m cap,.int .u8 r] 46)):=(Below.refl _ _).alloc (Nat.le_refl _) _
 go_enter Tryz.func29,Tryz.ntmps29
 go_wp2
 all_goals (go_ret; exact ⟨by simp [cM],hb0⟩)
theorem xX0 (w:World) (r a n:Int) (b:ByteArray) (ao:Option Addr) (m cap:Nat) (hm:m≤1000000000) (i:Int) (hi:0≤i∧i≤1000000000):Calls Tryz.prog 29 #[.agg #[.int .u8 6,.int .i64 a,.string b,.int .u64 n,.slice ao m cap,.int .u8 r],.int .i64 i] w fun en w'=>en = .returned (.int .u8 (cM r 6 m i))∧Below w.heap.size w w':=by
 have hb0:Below w.heap.size w (w.alloc (.cells #[.int .u8 6,.int .i64 a,.string b,.int .u64 n,.slice ao m cap,.int .u8 r] 46)):=(Below.refl _ _).alloc (Nat.le_refl _) _
 go_enter Tryz.func29,Tryz.ntmps29
 go_wp2
 all_goals (go_ret; exact ⟨by simp [cM],hb0⟩)
theorem wA0 (w:World) (r a n:Int) (b:ByteArray) (ao:Option Addr) (m cap:Nat) (hm:m≤1000000000) (i:Int) (hi:0≤i∧i≤1000000000):Calls Tryz.prog 29 #[.agg #[.int .u8 8,.int .i64 a,.string b,.int .u64 n,.slice ao m cap,.int .u8 r],.int .i64 i] w fun en w'=>en = .returned (.int .u8 (cM r 8 m i))∧Below w.heap.size w w':=by
 have hb0:Below w.heap.size w (w.alloc (.cells #[.int .u8 8,.int .i64 a,.string b,.int .u64 n,.slice ao m cap,.int .u8 r] 46)):=(Below.refl _ _).alloc (Nat.le_refl _) _
 go_enter Tryz.func29,Tryz.ntmps29
 go_wp2
 all_goals (go_ret; exact ⟨by simp [cM],hb0⟩)
theorem wQ0 (w:World) (r a n:Int) (b:ByteArray) (ao:Option Addr) (m cap:Nat) (hm:m≤1000000000) (i:Int) (hi:0≤i∧i≤1000000000):Calls Tryz.prog 29 #[.agg #[.int .u8 9,.int .i64 a,.string b,.int .u64 n,.slice ao m cap,.int .u8 r],.int .i64 i] w fun en w'=>en = .returned (.int .u8 (cM r 9 m i))∧Below w.heap.size w w':=by
 have hb0:Below w.heap.size w (w.alloc (.cells #[.int .u8 9,.int .i64 a,.string b,.int .u64 n,.slice ao m cap,.int .u8 r] 46)):=(Below.refl _ _).alloc (Nat.le_refl _) _
 go_enter Tryz.func29,Tryz.ntmps29
 go_wp2
 all_goals (go_ret; exact ⟨by simp [cM],hb0⟩)
theorem xV0 (w:World) (r a n:Int) (b:ByteArray) (ao:Option Addr) (m cap:Nat) (hm:m≤1000000000) (i:Int) (hi:0≤i∧i≤1000000000):Calls Tryz.prog 29 #[.agg #[.int .u8 4,.int .i64 a,.string b,.int .u64 n,.slice ao m cap,.int .u8 r],.int .i64 i] w fun en w'=>en = .returned (.int .u8 (cM r 4 m i))∧Below w.heap.size w w':=by
 have hb0:Below w.heap.size w (w.alloc (.cells #[.int .u8 4,.int .i64 a,.string b,.int .u64 n,.slice ao m cap,.int .u8 r] 46)):=(Below.refl _ _).alloc (Nat.le_refl _) _
 have hs0:w.heap.size≤(w.alloc (.cells #[.int .u8 4,.int .i64 a,.string b,.int .u64 n,.slice ao m cap,.int .u8 r] 46)).heap.size:=by rw [World.size_alloc]; omega
 have ho:Own ((w.alloc (.cells #[.int .u8 4,.int .i64 a,.string b,.int .u64 n,.slice ao m cap,.int .u8 r] 46)).alloc (.cells #[.int .u8 3,.int .u8 4,.int .u8 6] 44)) (w.heap.size + 1) #[.int .u8 3,.int .u8 4,.int .u8 6] 44:=by have:=Own.new (w.alloc (.cells #[.int .u8 4,.int .i64 a,.string b,.int .u64 n,.slice ao m cap,.int .u8 r] 46)) #[.int .u8 3,.int .u8 4,.int .u8 6] 44; rw [World.size_alloc] at this; exact this
 go_enter Tryz.func29,Tryz.ntmps29
 go_wp2_with fail
 refine (yZ _ i hi (w.heap.size + 1) 3 4 6 ho).mono ?_
 rintro en _ ⟨rfl,rfl⟩
 go_wp2
 go_ret
 exact ⟨by simp [cM],hb0.alloc hs0 _⟩
theorem nN0 (w:World) (r a n:Int) (b:ByteArray) (ao:Option Addr) (m cap:Nat) (hm:m≤1000000000) (i:Int) (hi:0≤i∧i≤1000000000):Calls Tryz.prog 29 #[.agg #[.int .u8 10,.int .i64 a,.string b,.int .u64 n,.slice ao m cap,.int .u8 r],.int .i64 i] w fun en w'=>en = .returned (.int .u8 (cM r 10 m i))∧Below w.heap.size w w':=by
 have hb0:Below w.heap.size w (w.alloc (.cells #[.int .u8 10,.int .i64 a,.string b,.int .u64 n,.slice ao m cap,.int .u8 r] 46)):=(Below.refl _ _).alloc (Nat.le_refl _) _
 go_enter Tryz.func29,Tryz.ntmps29
 go_wp2
 all_goals (go_ret; exact ⟨by simp [cM],hb0⟩)
theorem pB0 (w:World) (r a n:Int) (b:ByteArray) (ao:Option Addr) (m cap:Nat) (hm:m≤1000000000) (i:Int) (hi:0≤i∧i≤1000000000):Calls Tryz.prog 29 #[.agg #[.int .u8 11,.int .i64 a,.string b,.int .u64 n,.slice ao m cap,.int .u8 r],.int .i64 i] w fun en w'=>en = .returned (.int .u8 (cM r 11 m i))∧Below w.heap.size w w':=by
 have hb0:Below w.heap.size w (w.alloc (.cells #[.int .u8 11,.int .i64 a,.string b,.int .u64 n,.slice ao m cap,.int .u8 r] 46)):=(Below.refl _ _).alloc (Nat.le_refl _) _
 go_enter Tryz.func29,Tryz.ntmps29
 go_wp2_with fail
 refine (iL _ _ _ _).mono ?_
 rintro en _ ⟨rfl,rfl⟩
 go_wp2
 go_ret
 exact ⟨by simp [cM],hb0⟩
theorem sB0 (w:World) (r a n:Int) (b:ByteArray) (ao:Option Addr) (m cap:Nat) (hm:m≤1000000000) (i:Int) (hi:0≤i∧i≤1000000000):Calls Tryz.prog 29 #[.agg #[.int .u8 12,.int .i64 a,.string b,.int .u64 n,.slice ao m cap,.int .u8 r],.int .i64 i] w fun en w'=>en = .returned (.int .u8 (cM r 12 m i))∧Below w.heap.size w w':=by
 have hb0:Below w.heap.size w (w.alloc (.cells #[.int .u8 12,.int .i64 a,.string b,.int .u64 n,.slice ao m cap,.int .u8 r] 46)):=(Below.refl _ _).alloc (Nat.le_refl _) _
 go_enter Tryz.func29,Tryz.ntmps29
 go_wp2_with fail
 refine (iL _ _ _ _).mono ?_
 rintro en _ ⟨rfl,rfl⟩
 go_wp2_with fail
 refine (iL _ _ _ _).mono ?_
 rintro en _ ⟨rfl,rfl⟩
 go_wp2
 go_ret
 exact ⟨by simp [cM],hb0⟩
theorem nL0 (w:World) (r a n:Int) (b:ByteArray) (ao:Option Addr) (m cap:Nat) (hm:m≤1000000000) (i:Int) (hi:0≤i∧i≤1000000000):Calls Tryz.prog 29 #[.agg #[.int .u8 13,.int .i64 a,.string b,.int .u64 n,.slice ao m cap,.int .u8 r],.int .i64 i] w fun en w'=>en = .returned (.int .u8 (cM r 13 m i))∧Below w.heap.size w w':=by
 have hb0:Below w.heap.size w (w.alloc (.cells #[.int .u8 13,.int .i64 a,.string b,.int .u64 n,.slice ao m cap,.int .u8 r] 46)):=(Below.refl _ _).alloc (Nat.le_refl _) _
 go_enter Tryz.func29,Tryz.ntmps29
 go_wp2
 all_goals (go_ret; exact ⟨by simp [cM],hb0⟩)
theorem qB0 (w:World) (r a n:Int) (b:ByteArray) (ao:Option Addr) (m cap:Nat) (hm:m≤1000000000) (i:Int) (hi:0≤i∧i≤1000000000):Calls Tryz.prog 29 #[.agg #[.int .u8 14,.int .i64 a,.string b,.int .u64 n,.slice ao m cap,.int .u8 r],.int .i64 i] w fun en w'=>en = .returned (.int .u8 (cM r 14 m i))∧Below w.heap.size w w':=by
 have hb0:Below w.heap.size w (w.alloc (.cells #[.int .u8 14,.int .i64 a,.string b,.int .u64 n,.slice ao m cap,.int .u8 r] 46)):=(Below.refl _ _).alloc (Nat.le_refl _) _
 have hs0:w.heap.size≤(w.alloc (.cells #[.int .u8 14,.int .i64 a,.string b,.int .u64 n,.slice ao m cap,.int .u8 r] 46)).heap.size:=by rw [World.size_alloc]; omega
 have ho:Own ((w.alloc (.cells #[.int .u8 14,.int .i64 a,.string b,.int .u64 n,.slice ao m cap,.int .u8 r] 46)).alloc (.cells #[.int .u8 21,.int .u8 6,.int .u8 8] 44)) (w.heap.size + 1) #[.int .u8 21,.int .u8 6,.int .u8 8] 44:=by have:=Own.new (w.alloc (.cells #[.int .u8 14,.int .i64 a,.string b,.int .u64 n,.slice ao m cap,.int .u8 r] 46)) #[.int .u8 21,.int .u8 6,.int .u8 8] 44; rw [World.size_alloc] at this; exact this
 go_enter Tryz.func29,Tryz.ntmps29
 go_wp2_with fail
 refine (yZ _ i hi (w.heap.size + 1) 21 6 8 ho).mono ?_
 rintro en _ ⟨rfl,rfl⟩
 go_wp2
 go_ret
 exact ⟨by simp [cM],hb0.alloc hs0 _⟩
theorem oG0 (w:World) (r a n:Int) (b:ByteArray) (ao:Option Addr) (m cap:Nat) (hm:m≤1000000000) (i:Int) (hi:0≤i∧i≤1000000000):Calls Tryz.prog 29 #[.agg #[.int .u8 15,.int .i64 a,.string b,.int .u64 n,.slice ao m cap,.int .u8 r],.int .i64 i] w fun en w'=>en = .returned (.int .u8 (cM r 15 m i))∧Below w.heap.size w w':=by
 have hb0:Below w.heap.size w (w.alloc (.cells #[.int .u8 15,.int .i64 a,.string b,.int .u64 n,.slice ao m cap,.int .u8 r] 46)):=(Below.refl _ _).alloc (Nat.le_refl _) _
 have hs0:w.heap.size≤(w.alloc (.cells #[.int .u8 15,.int .i64 a,.string b,.int .u64 n,.slice ao m cap,.int .u8 r] 46)).heap.size:=by rw [World.size_alloc]; omega
 have ho:Own ((w.alloc (.cells #[.int .u8 15,.int .i64 a,.string b,.int .u64 n,.slice ao m cap,.int .u8 r] 46)).alloc (.cells #[.int .u8 21,.int .u8 6] 44)) (w.heap.size + 1) #[.int .u8 21,.int .u8 6] 44:=by have:=Own.new (w.alloc (.cells #[.int .u8 15,.int .i64 a,.string b,.int .u64 n,.slice ao m cap,.int .u8 r] 46)) #[.int .u8 21,.int .u8 6] 44; rw [World.size_alloc] at this; exact this
 go_enter Tryz.func29,Tryz.ntmps29
 go_wp2_with fail
 refine (nA _ i hi (w.heap.size + 1) 21 6 ho).mono ?_
 rintro en _ ⟨rfl,rfl⟩
 go_wp2
 go_ret
 exact ⟨by simp [cM],hb0.alloc hs0 _⟩
theorem nU0 (w:World) (r a n:Int) (b:ByteArray) (ao:Option Addr) (m cap:Nat) (hm:m≤1000000000) (i:Int) (hi:0≤i∧i≤1000000000):Calls Tryz.prog 29 #[.agg #[.int .u8 16,.int .i64 a,.string b,.int .u64 n,.slice ao m cap,.int .u8 r],.int .i64 i] w fun en w'=>en = .returned (.int .u8 (cM r 16 m i))∧Below w.heap.size w w':=by
 have hb0:Below w.heap.size w (w.alloc (.cells #[.int .u8 16,.int .i64 a,.string b,.int .u64 n,.slice ao m cap,.int .u8 r] 46)):=(Below.refl _ _).alloc (Nat.le_refl _) _
 have hs0:w.heap.size≤(w.alloc (.cells #[.int .u8 16,.int .i64 a,.string b,.int .u64 n,.slice ao m cap,.int .u8 r] 46)).heap.size:=by rw [World.size_alloc]; omega
 have ho:Own ((w.alloc (.cells #[.int .u8 16,.int .i64 a,.string b,.int .u64 n,.slice ao m cap,.int .u8 r] 46)).alloc (.cells #[.int .u8 9,.int .u8 10,.int .u8 11,.int .u8 6] 44)) (w.heap.size + 1) #[.int .u8 9,.int .u8 10,.int .u8 11,.int .u8 6] 44:=by have:=Own.new (w.alloc (.cells #[.int .u8 16,.int .i64 a,.string b,.int .u64 n,.slice ao m cap,.int .u8 r] 46)) #[.int .u8 9,.int .u8 10,.int .u8 11,.int .u8 6] 44; rw [World.size_alloc] at this; exact this
 go_enter Tryz.func29,Tryz.ntmps29
 go_wp2_with fail
 refine (mL0 _ i hi (w.heap.size + 1) 9 10 11 6 ho).mono ?_
 rintro en _ ⟨rfl,rfl⟩
 go_wp2
 go_ret
 exact ⟨by simp [cM],hb0.alloc hs0 _⟩
theorem rZ0 (w:World) (r a n:Int) (b:ByteArray) (ao:Option Addr) (m cap:Nat) (hm:m≤1000000000) (i:Int) (hi:0≤i∧i≤1000000000):Calls Tryz.prog 29 #[.agg #[.int .u8 17,.int .i64 a,.string b,.int .u64 n,.slice ao m cap,.int .u8 r],.int .i64 i] w fun en w'=>en = .returned (.int .u8 (cM r 17 m i))∧Below w.heap.size w w':=by
 have hb0:Below w.heap.size w (w.alloc (.cells #[.int .u8 17,.int .i64 a,.string b,.int .u64 n,.slice ao m cap,.int .u8 r] 46)):=(Below.refl _ _).alloc (Nat.le_refl _) _
 have hs0:w.heap.size≤(w.alloc (.cells #[.int .u8 17,.int .i64 a,.string b,.int .u64 n,.slice ao m cap,.int .u8 r] 46)).heap.size:=by rw [World.size_alloc]; omega
 have ho:Own ((w.alloc (.cells #[.int .u8 17,.int .i64 a,.string b,.int .u64 n,.slice ao m cap,.int .u8 r] 46)).alloc (.cells #[.int .u8 21,.int .u8 (eF (i == (m:Int) - 1) 13 12)] 44)) (w.heap.size + 1) #[.int .u8 21,.int .u8 (eF (i == (m:Int) - 1) 13 12)] 44:=by have:=Own.new (w.alloc (.cells #[.int .u8 17,.int .i64 a,.string b,.int .u64 n,.slice ao m cap,.int .u8 r] 46)) #[.int .u8 21,.int .u8 (eF (i == (m:Int) - 1) 13 12)] 44; rw [World.size_alloc] at this; exact this
 go_enter Tryz.func29,Tryz.ntmps29
 go_wp2_with fail
 refine (iL _ _ _ _).mono ?_
 rintro en _ ⟨rfl,rfl⟩
 go_wp2_with fail
 refine (nA _ i hi (w.heap.size + 1) 21 (eF (i == (m:Int) - 1) 13 12) ho).mono ?_
 rintro en _ ⟨rfl,rfl⟩
 go_wp2
 go_ret
 exact ⟨by simp [cM],hb0.alloc hs0 _⟩
theorem rI0 (w:World) (r a n:Int) (b:ByteArray) (ao:Option Addr) (m cap:Nat) (hm:m≤1000000000) (i:Int) (hi:0≤i∧i≤1000000000):Calls Tryz.prog 29 #[.agg #[.int .u8 18,.int .i64 a,.string b,.int .u64 n,.slice ao m cap,.int .u8 r],.int .i64 i] w fun en w'=>en = .returned (.int .u8 (cM r 18 m i))∧Below w.heap.size w w':=by
 have hb0:Below w.heap.size w (w.alloc (.cells #[.int .u8 18,.int .i64 a,.string b,.int .u64 n,.slice ao m cap,.int .u8 r] 46)):=(Below.refl _ _).alloc (Nat.le_refl _) _
 go_enter Tryz.func29,Tryz.ntmps29
 go_wp2_with fail
 refine (iL _ _ _ _).mono ?_
 rintro en _ ⟨rfl,rfl⟩
 go_wp2
 go_ret
 exact ⟨by simp [cM],hb0⟩
theorem pN0 (w:World) (r a n:Int) (b:ByteArray) (ao:Option Addr) (m cap:Nat) (hm:m≤1000000000) (i:Int) (hi:0≤i∧i≤1000000000):Calls Tryz.prog 29 #[.agg #[.int .u8 19,.int .i64 a,.string b,.int .u64 n,.slice ao m cap,.int .u8 r],.int .i64 i] w fun en w'=>en = .returned (.int .u8 (cM r 19 m i))∧Below w.heap.size w w':=by
 have hb0:Below w.heap.size w (w.alloc (.cells #[.int .u8 19,.int .i64 a,.string b,.int .u64 n,.slice ao m cap,.int .u8 r] 46)):=(Below.refl _ _).alloc (Nat.le_refl _) _
 go_enter Tryz.func29,Tryz.ntmps29
 go_wp2
 all_goals (go_ret; exact ⟨by simp [cM],hb0⟩)
theorem nT0 (w:World) (r a n:Int) (b:ByteArray) (ao:Option Addr) (m cap:Nat) (hm:m≤1000000000) (i:Int) (hi:0≤i∧i≤1000000000):Calls Tryz.prog 29 #[.agg #[.int .u8 47,.int .i64 a,.string b,.int .u64 n,.slice ao m cap,.int .u8 r],.int .i64 i] w fun en w'=>en = .returned (.int .u8 (cM r 47 m i))∧Below w.heap.size w w':=by
 have hb0:Below w.heap.size w (w.alloc (.cells #[.int .u8 47,.int .i64 a,.string b,.int .u64 n,.slice ao m cap,.int .u8 r] 46)):=(Below.refl _ _).alloc (Nat.le_refl _) _
 have hs0:w.heap.size≤(w.alloc (.cells #[.int .u8 47,.int .i64 a,.string b,.int .u64 n,.slice ao m cap,.int .u8 r] 46)).heap.size:=by rw [World.size_alloc]; omega
 have ho:Own ((w.alloc (.cells #[.int .u8 47,.int .i64 a,.string b,.int .u64 n,.slice ao m cap,.int .u8 r] 46)).alloc (.cells #[.int .u8 5,.int .u8 21] 44)) (w.heap.size + 1) #[.int .u8 5,.int .u8 21] 44:=by have:=Own.new (w.alloc (.cells #[.int .u8 47,.int .i64 a,.string b,.int .u64 n,.slice ao m cap,.int .u8 r] 46)) #[.int .u8 5,.int .u8 21] 44; rw [World.size_alloc] at this; exact this
 go_enter Tryz.func29,Tryz.ntmps29
 go_wp2_with fail
 refine (nA _ i hi (w.heap.size + 1) 5 21 ho).mono ?_
 rintro en _ ⟨rfl,rfl⟩
 go_wp2
 go_ret
 exact ⟨by simp [cM],hb0.alloc hs0 _⟩
theorem rT0 (w:World) (r a n:Int) (b:ByteArray) (ao:Option Addr) (m cap:Nat) (hm:m≤1000000000) (i:Int) (hi:0≤i∧i≤1000000000):Calls Tryz.prog 29 #[.agg #[.int .u8 48,.int .i64 a,.string b,.int .u64 n,.slice ao m cap,.int .u8 r],.int .i64 i] w fun en w'=>en = .returned (.int .u8 (cM r 48 m i))∧Below w.heap.size w w':=by
 have hb0:Below w.heap.size w (w.alloc (.cells #[.int .u8 48,.int .i64 a,.string b,.int .u64 n,.slice ao m cap,.int .u8 r] 46)):=(Below.refl _ _).alloc (Nat.le_refl _) _
 have hs0:w.heap.size≤(w.alloc (.cells #[.int .u8 48,.int .i64 a,.string b,.int .u64 n,.slice ao m cap,.int .u8 r] 46)).heap.size:=by rw [World.size_alloc]; omega
 cases h17:(r == 17)
 all_goals cases h18:(r == 18)
 all_goals
  have ho:Own ((w.alloc (.cells #[.int .u8 48,.int .i64 a,.string b,.int .u64 n,.slice ao m cap,.int .u8 r] 46)).alloc (.cells #[.int .u8 (eF (r == 17 || r == 18) 18 21),.int .u8 21] 44)) (w.heap.size + 1) #[.int .u8 (eF (r == 17 || r == 18) 18 21),.int .u8 21] 44:=by have:=Own.new (w.alloc (.cells #[.int .u8 48,.int .i64 a,.string b,.int .u64 n,.slice ao m cap,.int .u8 r] 46)) #[.int .u8 (eF (r == 17 || r == 18) 18 21),.int .u8 21] 44; rw [World.size_alloc] at this; exact this
  rw [h17,h18] at ho
  go_enter Tryz.func29,Tryz.ntmps29
  go_wp2_with fail
  refine (iL _ _ _ _).mono ?_
  rintro en _ ⟨rfl,rfl⟩
  go_wp2_with fail
  refine (nA _ i hi (w.heap.size + 1) _ 21 ho).mono ?_
  rintro en _ ⟨rfl,rfl⟩
  go_wp2
  go_ret
  exact ⟨by simp [cM,h17,h18],hb0.alloc hs0 _⟩
theorem pZ0 (w:World) (r a n:Int) (b:ByteArray) (ao:Option Addr) (m cap:Nat) (hm:m≤1000000000) (i:Int) (hi:0≤i∧i≤1000000000):Calls Tryz.prog 29 #[.agg #[.int .u8 49,.int .i64 a,.string b,.int .u64 n,.slice ao m cap,.int .u8 r],.int .i64 i] w fun en w'=>en = .returned (.int .u8 (cM r 49 m i))∧Below w.heap.size w w':=by
 have hb0:Below w.heap.size w (w.alloc (.cells #[.int .u8 49,.int .i64 a,.string b,.int .u64 n,.slice ao m cap,.int .u8 r] 46)):=(Below.refl _ _).alloc (Nat.le_refl _) _
 have hs0:w.heap.size≤(w.alloc (.cells #[.int .u8 49,.int .i64 a,.string b,.int .u64 n,.slice ao m cap,.int .u8 r] 46)).heap.size:=by rw [World.size_alloc]; omega
 cases h17:(r == 17)
 all_goals cases h18:(r == 18)
 all_goals
  have ho:Own ((w.alloc (.cells #[.int .u8 49,.int .i64 a,.string b,.int .u64 n,.slice ao m cap,.int .u8 r] 46)).alloc (.cells #[.int .u8 (eF (r == 17 || r == 18) 18 21),.int .u8 21] 44)) (w.heap.size + 1) #[.int .u8 (eF (r == 17 || r == 18) 18 21),.int .u8 21] 44:=by have:=Own.new (w.alloc (.cells #[.int .u8 49,.int .i64 a,.string b,.int .u64 n,.slice ao m cap,.int .u8 r] 46)) #[.int .u8 (eF (r == 17 || r == 18) 18 21),.int .u8 21] 44; rw [World.size_alloc] at this; exact this
  rw [h17,h18] at ho
  go_enter Tryz.func29,Tryz.ntmps29
  go_wp2_with fail
  refine (iL _ _ _ _).mono ?_
  rintro en _ ⟨rfl,rfl⟩
  go_wp2_with fail
  refine (nA _ i hi (w.heap.size + 1) _ 21 ho).mono ?_
  rintro en _ ⟨rfl,rfl⟩
  go_wp2
  go_ret
  exact ⟨by simp [cM,h17,h18],hb0.alloc hs0 _⟩
theorem rL0 (w:World) (r a n:Int) (b:ByteArray) (ao:Option Addr) (m cap:Nat) (hm:m≤1000000000) (i:Int) (hi:0≤i∧i≤1000000000):Calls Tryz.prog 29 #[.agg #[.int .u8 55,.int .i64 a,.string b,.int .u64 n,.slice ao m cap,.int .u8 r],.int .i64 i] w fun en w'=>en = .returned (.int .u8 (cM r 55 m i))∧Below w.heap.size w w':=by
 have hb0:Below w.heap.size w (w.alloc (.cells #[.int .u8 55,.int .i64 a,.string b,.int .u64 n,.slice ao m cap,.int .u8 r] 46)):=(Below.refl _ _).alloc (Nat.le_refl _) _
 go_enter Tryz.func29,Tryz.ntmps29
 go_wp2_with fail
 refine (iL _ _ _ _).mono ?_
 rintro en _ ⟨rfl,rfl⟩
 go_wp2
 go_ret
 exact ⟨by simp [cM],hb0⟩
theorem tI0 (w:World) (r k a n:Int) (b:ByteArray) (ao:Option Addr) (m cap:Nat) (hm:m≤1000000000) (i:Int) (hi:0≤i∧i≤1000000000) (h1:(k == 1) = false) (h2:(k == 2) = false) (h5:(k == 5) = false) (h3:(k == 3) = false) (h6:(k == 6) = false) (h8:(k == 8) = false) (h9:(k == 9) = false) (h4:(k == 4) = false) (h10:(k == 10) = false) (h11:(k == 11) = false) (h12:(k == 12) = false) (h13:(k == 13) = false) (h14:(k == 14) = false) (h15:(k == 15) = false) (h16:(k == 16) = false) (h17:(k == 17) = false) (h18:(k == 18) = false) (h19:(k == 19) = false) (h47:(k == 47) = false) (h48:(k == 48) = false) (h49:(k == 49) = false) (h55:(k == 55) = false):Calls Tryz.prog 29 #[.agg #[.int .u8 k,.int .i64 a,.string b,.int .u64 n,.slice ao m cap,.int .u8 r],.int .i64 i] w fun en w'=>en = .returned (.int .u8 (cM r k m i))∧Below w.heap.size w w':=by
 have hb0:Below w.heap.size w (w.alloc (.cells #[.int .u8 k,.int .i64 a,.string b,.int .u64 n,.slice ao m cap,.int .u8 r] 46)):=(Below.refl _ _).alloc (Nat.le_refl _) _
 go_enter Tryz.func29,Tryz.ntmps29
 go_wp2
 all_goals (go_ret; exact ⟨by simp [cM, *],hb0⟩)
theorem tK0 (w:World) (r k a n:Int) (b:ByteArray) (ao:Option Addr) (m cap:Nat) (hm:m≤1000000000) (i:Int) (hi:0≤i∧i≤1000000000):Calls Tryz.prog 29 #[.agg #[.int .u8 k,.int .i64 a,.string b,.int .u64 n,.slice ao m cap,.int .u8 r],.int .i64 i] w fun en w'=>en = .returned (.int .u8 (cM r k m i))∧Below w.heap.size w w':=by
 cases h1:(k == 1) with
 | true =>
  have:=eq_of_beq h1
  subst this
  exact xO0 w r a n b ao m cap hm i hi
 | false =>
 cases h2:(k == 2) with
 | true =>
  have:=eq_of_beq h2
  subst this
  exact wJ0 w r a n b ao m cap hm i hi
 | false =>
 cases h5:(k == 5) with
 | true =>
  have:=eq_of_beq h5
  subst this
  exact wC0 w r a n b ao m cap hm i hi
 | false =>
 cases h3:(k == 3) with
 | true =>
  have:=eq_of_beq h3
  subst this
  exact wS0 w r a n b ao m cap hm i hi
 | false =>
 cases h6:(k == 6) with
 | true =>
  have:=eq_of_beq h6
  subst this
  exact xX0 w r a n b ao m cap hm i hi
 | false =>
 cases h8:(k == 8) with
 | true =>
  have:=eq_of_beq h8
  subst this
  exact wA0 w r a n b ao m cap hm i hi
 | false =>
 cases h9:(k == 9) with
 | true =>
  have:=eq_of_beq h9
  subst this
  exact wQ0 w r a n b ao m cap hm i hi
 | false =>
 cases h4:(k == 4) with
 | true =>
  have:=eq_of_beq h4
  subst this
  exact xV0 w r a n b ao m cap hm i hi
 | false =>
 cases h10:(k == 10) with
 | true =>
  have:=eq_of_beq h10
  subst this
  exact nN0 w r a n b ao m cap hm i hi
 | false =>
 cases h11:(k == 11) with
 | true =>
  have:=eq_of_beq h11
  subst this
  exact pB0 w r a n b ao m cap hm i hi
 | false =>
 cases h12:(k == 12) with
 | true =>
  have:=eq_of_beq h12
  subst this
  exact sB0 w r a n b ao m cap hm i hi
 | false =>
 cases h13:(k == 13) with
 | true =>
  have:=eq_of_beq h13
  subst this
  exact nL0 w r a n b ao m cap hm i hi
 | false =>
 cases h14:(k == 14) with
 | true =>
  have:=eq_of_beq h14
  subst this
  exact qB0 w r a n b ao m cap hm i hi
 | false =>
 cases h15:(k == 15) with
 | true =>
  have:=eq_of_beq h15
  subst this
  exact oG0 w r a n b ao m cap hm i hi
 | false =>
 cases h16:(k == 16) with
 | true =>
  have:=eq_of_beq h16
  subst this
  exact nU0 w r a n b ao m cap hm i hi
 | false =>
 cases h17:(k == 17) with
 | true =>
  have:=eq_of_beq h17
  subst this
  exact rZ0 w r a n b ao m cap hm i hi
 | false =>
 cases h18:(k == 18) with
 | true =>
  have:=eq_of_beq h18
  subst this
  exact rI0 w r a n b ao m cap hm i hi
 | false =>
 cases h19:(k == 19) with
 | true =>
  have:=eq_of_beq h19
  subst this
  exact pN0 w r a n b ao m cap hm i hi
 | false =>
 cases h47:(k == 47) with
 | true =>
  have:=eq_of_beq h47
  subst this
  exact nT0 w r a n b ao m cap hm i hi
 | false =>
 cases h48:(k == 48) with
 | true =>
  have:=eq_of_beq h48
  subst this
  exact rT0 w r a n b ao m cap hm i hi
 | false =>
 cases h49:(k == 49) with
 | true =>
  have:=eq_of_beq h49
  subst this
  exact pZ0 w r a n b ao m cap hm i hi
 | false =>
 cases h55:(k == 55) with
 | true =>
  have:=eq_of_beq h55
  subst this
  exact rL0 w r a n b ao m cap hm i hi
 | false =>
 exact tI0 w r k a n b ao m cap hm i hi h1 h2 h5 h3 h6 h8 h9 h4 h10 h11 h12 h13 h14 h15 h16 h17 h18 h19 h47 h48 h49 h55
end Go.Proofs.YtnipenijihkgdaaGreatDoor
