/-
  TYPES AND FUNCTIONS HELD AGAINST EACH OTHER: the kit's SameType, SameRoutine; image's sameType, sameFunc.
-/
import Derived.Test.YtghkanagiobggaaMs1
namespace Go.Proofs.Ytghkanagiobggaa
open Go.RowKit
set_option linter.unusedVariables false

theorem own5 {w : World} {g : Nat} {a0 a1 a2 a3 a4 : Value} {t : TypeId} (h : Own w g #[a0, a1, a2, a3, a4] t) : w.cell? ⟨g, 0, none⟩ = some a0 ∧ w.cell? ⟨g, 1, none⟩ = some a1 ∧ w.cell? ⟨g, 2, none⟩ = some a2 ∧ w.cell? ⟨g, 3, none⟩ = some a3 ∧ w.cell? ⟨g, 4, none⟩ = some a4 ∧ ∀ j, w.frozen? ⟨g, j, none⟩ = false := ⟨h.cell 0, h.cell 1, h.cell 2, h.cell 3, h.cell 4, h.froz⟩
theorem own6 {w : World} {g : Nat} {a0 a1 a2 a3 a4 a5 : Value} {t : TypeId} (h : Own w g #[a0, a1, a2, a3, a4, a5] t) : w.cell? ⟨g, 0, none⟩ = some a0 ∧ w.cell? ⟨g, 1, none⟩ = some a1 ∧ w.cell? ⟨g, 2, none⟩ = some a2 ∧ w.cell? ⟨g, 3, none⟩ = some a3 ∧ w.cell? ⟨g, 4, none⟩ = some a4 ∧ w.cell? ⟨g, 5, none⟩ = some a5 ∧ ∀ j, w.frozen? ⟨g, j, none⟩ = false := ⟨h.cell 0, h.cell 1, h.cell 2, h.cell 3, h.cell 4, h.cell 5, h.froz⟩
abbrev tyV (K : Int) (s : ByteArray) (a : Option Addr) (n c : Nat) (E L : Int) : Array Value := #[.int .u8 K, .string s, .slice a n c, .int .i64 E, .int .i64 L]
abbrev roV (s : ByteArray) (pa : Option Addr) (pn pc : Nat) (ra : Option Addr) (rn rc : Nat) (lo st : Int) (ca : Option Addr) (cn cc : Nat) : Array Value := #[.string s, .slice pa pn pc, .slice ra rn rc, .int .i64 lo, .int .i64 st, .slice ca cn cc]
theorem lies_row1 {w : World} {a : Option Addr} {xs : List Nat} (h : Lies w a xs) : RowAt w a 1 xs.length (byF xs) := by
  rcases h.2.2 with h0 | ⟨b, off, rfl, hc⟩
  · exact .inl (by rw [h0]; rfl)
  · refine .inr ⟨b, off, rfl, fun i hi d hd => ?_⟩
    obtain rfl : d = 0 := by omega
    rw [Nat.mul_one]
    exact hc i hi
theorem strN_inj {xs ys : List Nat} (hx : ∀ c ∈ xs, c < 256) (hy : ∀ c ∈ ys, c < 256) (h : strN xs = strN ys) : xs = ys := by
  have h2 : xs.map (fun (c : Nat) => UInt8.ofNat (c : Int).toNat) = ys.map (fun (c : Nat) => UInt8.ofNat (c : Int).toNat) := by
    have := congrArg (fun b : ByteArray => b.data.toList) h
    simpa [strN, strOfNums_data, List.map_map, Function.comp_def] using this
  clear h
  induction xs generalizing ys with
  | nil => cases ys with
    | nil => rfl
    | cons y r => cases h2
  | cons x r ih => cases ys with
    | nil => cases h2
    | cons y r' =>
      simp only [List.map_cons, List.cons.injEq, Int.toNat_natCast] at h2
      have e1 : x = y := by
        have hx1 := hx x (by simp)
        have hy1 := hy y (by simp)
        have := congrArg UInt8.toNat h2.1
        simp only [UInt8.toNat_ofNat'] at this
        omega
      rw [e1, ih (ys := r') (fun c hc => hx c (List.mem_cons_of_mem _ hc)) (fun c hc => hy c (List.mem_cons_of_mem _ hc)) (by simpa using h2.2)]
set_option maxHeartbeats 2000000 in
set_option maxRecDepth 100000 in
theorem kty_as {w : World} {a a' : Option Addr} {n n' c c' : Nat} {xs ys : List Fl} {K K' E E' L L' : Int} {s s' : ByteArray} (hn : n = xs.length) (hn' : n' = ys.length) (h : RowAt w a 2 xs.length (flF xs)) (h' : RowAt w a' 2 ys.length (flF ys)) (hm : n ≤ big) (b : Bool) (hb : b = true ↔ K = K' ∧ s = s' ∧ E = E' ∧ L = L' ∧ xs = ys) :
    Calls Try.prog 15 #[.agg (tyV K s a n c E L), .agg (tyV K' s' a' n' c' E' L')] w fun e w' => e = .returned (.bool b) ∧ Below w.heap.size w w' := by
  have o1 := (Own.new w (tyV K s a n c E L) 33).alloc (.cells (tyV K' s' a' n' c' E' L') 33)
  have o2 := Own.new (w.alloc (.cells (tyV K s a n c E L) 33)) (tyV K' s' a' n' c' E' L') 33
  rw [World.size_alloc] at o2
  have hb0 : Below w.heap.size w ((w.alloc (.cells (tyV K s a n c E L) 33)).alloc (.cells (tyV K' s' a' n' c' E' L') 33)) := (new_below _ _).alloc (by simp) _
  obtain ⟨b', hb'⟩ := some_bool (xs = ys)
  have HC : Hid (∀ W, Below w.heap.size w W → Calls Try.prog 26 #[.slice a n c, .slice a' n' c'] W fun e w' => e = .returned (.bool b') ∧ Below W.heap.size W w') := fun W q => sameFields_as hn hn' (h.below q) (h'.below q) hm b' hb'
  have HB : Hid (b = true ↔ K = K' ∧ s = s' ∧ E = E' ∧ L = L' ∧ b' = true) := hb.trans (by rw [hb'])
  clear hn hn' h h' hb hb' hm
  go_enter Try.func15, Try.ntmps15
  go_upto_region 1 with fail
  generalize (w.alloc (.cells (tyV K s a n c E L) 33)).alloc (.cells (tyV K' s' a' n' c' E' L') 33) = w2 at *
  obtain ⟨x0, x1, x2, x3, x4, xf⟩ := own5 o1
  obtain ⟨y0, y1, y2, y3, y4, yf⟩ := own5 o2
  clear o1 o2
  by_cases hk : K = K'
  · subst hk
    by_cases hs : s = s'
    · subst hs
      have hss := ba_self s
      by_cases he : E = E'
      · subst he
        by_cases hl : L = L'
        · subst hl
          obtain rfl : b = b' := Bool.eq_iff_iff.2 ⟨fun q => (HB.out.1 q).2.2.2.2, fun q => HB.out.2 ⟨rfl, rfl, rfl, rfl, q⟩⟩
          clear HB
          go_wp2_with fail
          refine Calls.mono (HC.out w2 hb0) ?_
          rintro e w3 ⟨rfl, b3⟩
          replace hb0 := hb0.trans (b3.mono hb0.size)
          cases b <;> (go_wp2; go_ret; exact ⟨rfl, hb0⟩)
        · obtain rfl : b = false := iff_false HB.out (fun q => hl q.2.2.2.1)
          have hq : (L == L') = false := by rw [beq_eq_false_iff_ne]; exact hl
          clear hl HB HC
          go_wp2
          go_ret
          exact ⟨rfl, hb0⟩
      · obtain rfl : b = false := iff_false HB.out (fun q => he q.2.2.1)
        have hq : (E == E') = false := by rw [beq_eq_false_iff_ne]; exact he
        clear he HB HC
        go_wp2
        go_ret
        exact ⟨rfl, hb0⟩
    · obtain rfl : b = false := iff_false HB.out (fun q => hs q.2.1)
      have hss := ba_ne hs
      clear hs HB HC
      go_wp2
      go_ret
      exact ⟨rfl, hb0⟩
  · obtain rfl : b = false := iff_false HB.out (fun q => hk q.1)
    have hq : (K == K') = false := by rw [beq_eq_false_iff_ne]; exact hk
    clear hk HB HC
    go_wp2
    go_ret
    exact ⟨rfl, hb0⟩
set_option maxHeartbeats 2000000 in
set_option maxRecDepth 100000 in
theorem ity_as {w : World} {a a' : Option Addr} {n n' c c' : Nat} {xs ys : List Fl} {K K' E E' L L' : Int} {s s' : ByteArray} (hn : n = xs.length) (hn' : n' = ys.length) (h : RowAt w a 2 xs.length (flF xs)) (h' : RowAt w a' 2 ys.length (flF ys)) (hm : n ≤ big) (b : Bool) (hb : b = true ↔ K = K' ∧ s = s' ∧ E = E' ∧ L = L' ∧ xs = ys) :
    Calls Try.prog 11 #[.agg (tyV K s a n c E L), .agg (tyV K' s' a' n' c' E' L')] w fun e w' => e = .returned (.bool b) ∧ Below w.heap.size w w' := by
  have o1 := (Own.new w (tyV K s a n c E L) 33).alloc (.cells (tyV K' s' a' n' c' E' L') 33)
  have o2 := Own.new (w.alloc (.cells (tyV K s a n c E L) 33)) (tyV K' s' a' n' c' E' L') 33
  rw [World.size_alloc] at o2
  have hb0 : Below w.heap.size w ((w.alloc (.cells (tyV K s a n c E L) 33)).alloc (.cells (tyV K' s' a' n' c' E' L') 33)) := (new_below _ _).alloc (by simp) _
  obtain ⟨b', hb'⟩ := some_bool (xs = ys)
  have HC : Hid (∀ W, Below w.heap.size w W → Calls Try.prog 23 #[.slice a n c, .slice a' n' c'] W fun e w' => e = .returned (.bool b') ∧ Below W.heap.size W w') := fun W q => eqFields_as hn hn' (h.below q) (h'.below q) hm b' hb'
  have HB : Hid (b = true ↔ K = K' ∧ s = s' ∧ E = E' ∧ L = L' ∧ b' = true) := hb.trans (by rw [hb'])
  clear hn hn' h h' hb hb' hm
  go_enter Try.func11, Try.ntmps11
  go_upto_region 1 with fail
  generalize (w.alloc (.cells (tyV K s a n c E L) 33)).alloc (.cells (tyV K' s' a' n' c' E' L') 33) = w2 at *
  obtain ⟨x0, x1, x2, x3, x4, xf⟩ := own5 o1
  obtain ⟨y0, y1, y2, y3, y4, yf⟩ := own5 o2
  clear o1 o2
  by_cases hk : K = K'
  · subst hk
    by_cases hs : s = s'
    · subst hs
      have hss := ba_self s
      by_cases he : E = E'
      · subst he
        by_cases hl : L = L'
        · subst hl
          obtain rfl : b = b' := Bool.eq_iff_iff.2 ⟨fun q => (HB.out.1 q).2.2.2.2, fun q => HB.out.2 ⟨rfl, rfl, rfl, rfl, q⟩⟩
          clear HB
          go_wp2_with fail
          refine Calls.mono (HC.out w2 hb0) ?_
          rintro e w3 ⟨rfl, b3⟩
          replace hb0 := hb0.trans (b3.mono hb0.size)
          cases b <;> (go_wp2; go_ret; exact ⟨rfl, hb0⟩)
        · obtain rfl : b = false := iff_false HB.out (fun q => hl q.2.2.2.1)
          have hq : (L == L') = false := by rw [beq_eq_false_iff_ne]; exact hl
          clear hl HB HC
          go_wp2
          go_ret
          exact ⟨rfl, hb0⟩
      · obtain rfl : b = false := iff_false HB.out (fun q => he q.2.2.1)
        have hq : (E == E') = false := by rw [beq_eq_false_iff_ne]; exact he
        clear he HB HC
        go_wp2
        go_ret
        exact ⟨rfl, hb0⟩
    · obtain rfl : b = false := iff_false HB.out (fun q => hs q.2.1)
      have hss := ba_ne hs
      clear hs HB HC
      go_wp2
      go_ret
      exact ⟨rfl, hb0⟩
  · obtain rfl : b = false := iff_false HB.out (fun q => hk q.1)
    have hq : (K == K') = false := by rw [beq_eq_false_iff_ne]; exact hk
    clear hk HB HC
    go_wp2
    go_ret
    exact ⟨rfl, hb0⟩
set_option maxHeartbeats 4000000 in
set_option maxRecDepth 100000 in
theorem kro_as {w : World} {pa pa' ra ra' ca ca' : Option Addr} {pn pn' pc pc' rn rn' rc rc' cn cn' cc cc' : Nat} {ps ps' rs rs' : List Int} {cs cs' : List Nat} {lo lo' st st' : Int} {s s' : ByteArray} (hpn : pn = ps.length) (hpn' : pn' = ps'.length) (hrn : rn = rs.length) (hrn' : rn' = rs'.length) (hcn : cn = cs.length) (hcn' : cn' = cs'.length)
    (hp : RowAt w pa 1 ps.length (inF ps)) (hp' : RowAt w pa' 1 ps'.length (inF ps')) (hr : RowAt w ra 1 rs.length (inF rs)) (hr' : RowAt w ra' 1 rs'.length (inF rs')) (hc : Lies w ca cs) (hc' : Lies w ca' cs') (hpm : pn ≤ big) (hrm : rn ≤ big) (hcm : cn ≤ big) (b : Bool) (hb : b = true ↔ s = s' ∧ lo = lo' ∧ st = st' ∧ ps = ps' ∧ rs = rs' ∧ cs = cs') :
    Calls Try.prog 16 #[.agg (roV s pa pn pc ra rn rc lo st ca cn cc), .agg (roV s' pa' pn' pc' ra' rn' rc' lo' st' ca' cn' cc')] w fun e w' => e = .returned (.bool b) ∧ Below w.heap.size w w' := by
  have o1 := (Own.new w (roV s pa pn pc ra rn rc lo st ca cn cc) 39).alloc (.cells (roV s' pa' pn' pc' ra' rn' rc' lo' st' ca' cn' cc') 39)
  have o2 := Own.new (w.alloc (.cells (roV s pa pn pc ra rn rc lo st ca cn cc) 39)) (roV s' pa' pn' pc' ra' rn' rc' lo' st' ca' cn' cc') 39
  rw [World.size_alloc] at o2
  have hb0 : Below w.heap.size w ((w.alloc (.cells (roV s pa pn pc ra rn rc lo st ca cn cc) 39)).alloc (.cells (roV s' pa' pn' pc' ra' rn' rc' lo' st' ca' cn' cc') 39)) := (new_below _ _).alloc (by simp) _
  obtain ⟨b1, hb1⟩ := some_bool (ps = ps')
  obtain ⟨b2, hb2⟩ := some_bool (rs = rs')
  obtain ⟨b3, hb3⟩ := some_bool (cs = cs')
  have HC1 : Hid (∀ W, Below w.heap.size w W → Calls Try.prog 27 #[.slice pa pn pc, .slice pa' pn' pc'] W fun e w' => e = .returned (.bool b1) ∧ Below W.heap.size W w') := fun W q => sameInts_as hpn hpn' (hp.below q) (hp'.below q) hpm b1 hb1
  have HC2 : Hid (∀ W, Below w.heap.size w W → Calls Try.prog 27 #[.slice ra rn rc, .slice ra' rn' rc'] W fun e w' => e = .returned (.bool b2) ∧ Below W.heap.size W w') := fun W q => sameInts_as hrn hrn' (hr.below q) (hr'.below q) hrm b2 hb2
  have HC3 : Hid (∀ W, Below w.heap.size w W → (convert 37 9 (.slice ca cn cc)).run Try.prog W = .ok (.string (strN cs)) W) := fun W q => conv_any (hc.below q) hcn
  have HC4 : Hid (∀ W, Below w.heap.size w W → (convert 37 9 (.slice ca' cn' cc')).run Try.prog W = .ok (.string (strN cs')) W) := fun W q => conv_any (hc'.below q) hcn'
  have HS : Hid (b3 = true ↔ strN cs = strN cs') := hb3.trans ⟨fun q => by rw [q], strN_inj hc.1 hc'.1⟩
  have HB : Hid (b = true ↔ s = s' ∧ lo = lo' ∧ st = st' ∧ b1 = true ∧ b2 = true ∧ b3 = true) := hb.trans (by rw [hb1, hb2, hb3])
  clear hpn hpn' hrn hrn' hcn hcn' hp hp' hr hr' hc hc' hb hb1 hb2 hb3 hpm hrm hcm
  go_enter Try.func16, Try.ntmps16
  go_upto_region 1 with fail
  generalize (w.alloc (.cells (roV s pa pn pc ra rn rc lo st ca cn cc) 39)).alloc (.cells (roV s' pa' pn' pc' ra' rn' rc' lo' st' ca' cn' cc') 39) = w2 at *
  obtain ⟨x0, x1, x2, x3, x4, x5, xf⟩ := own6 o1
  obtain ⟨y0, y1, y2, y3, y4, y5, yf⟩ := own6 o2
  by_cases hs : s = s'
  · subst hs
    have hss := ba_self s
    by_cases he : lo = lo'
    · subst he
      by_cases hl : st = st'
      · subst hl
        clear x0 x1 x2 x3 x4 x5 xf y0 y1 y2 y3 y4 y5 yf
        obtain ⟨x0, x1, x2, x3, x4, x5, xf⟩ := own6 o1
        obtain ⟨y0, y1, y2, y3, y4, y5, yf⟩ := own6 o2
        go_wp2_with fail
        refine Calls.mono (HC1.out w2 hb0) ?_
        rintro e w3 ⟨rfl, b3'⟩
        clear x0 x1 x2 x3 x4 x5 xf y0 y1 y2 y3 y4 y5 yf
        replace hb0 := hb0.trans (b3'.mono hb0.size)
        replace o1 := o1.below b3'
        replace o2 := o2.below b3'
        obtain ⟨x0, x1, x2, x3, x4, x5, xf⟩ := own6 o1
        obtain ⟨y0, y1, y2, y3, y4, y5, yf⟩ := own6 o2
        cases b1 with
        | false =>
          obtain rfl : b = false := iff_false HB.out (fun q => by simp at q)
          clear HB HC2 HC3 o1 o2
          go_wp2
          go_ret
          exact ⟨rfl, hb0⟩
        | true =>
          go_wp2_with fail
          refine Calls.mono (HC2.out w3 hb0) ?_
          rintro e w4 ⟨rfl, b4'⟩
          clear x0 x1 x2 x3 x4 x5 xf y0 y1 y2 y3 y4 y5 yf
          replace hb0 := hb0.trans (b4'.mono hb0.size)
          replace o1 := o1.below b4'
          replace o2 := o2.below b4'
          obtain ⟨x0, x1, x2, x3, x4, x5, xf⟩ := own6 o1
          obtain ⟨y0, y1, y2, y3, y4, y5, yf⟩ := own6 o2
          cases b2 with
          | false =>
            obtain rfl : b = false := iff_false HB.out (fun q => by simp at q)
            clear HB HC2 HC3 o1 o2
            go_wp2
            go_ret
            exact ⟨rfl, hb0⟩
          | true =>
            obtain rfl : b = b3 := Bool.eq_iff_iff.2 ⟨fun q => (HB.out.1 q).2.2.2.2.2, fun q => HB.out.2 (by simp [q])⟩
            clear HB HC1 HC2
            have k1 := HC3.out w4 hb0
            have k2 := HC4.out w4 hb0
            have k3 := HS.out
            clear HC3 HC4 HS
            generalize strN cs = S1 at *
            generalize strN cs' = S2 at *
            by_cases hq : S1 = S2
            · subst hq
              obtain rfl : b = true := k3.2 rfl
              have hsq := ba_self S1
              clear k3
              go_wp2
              go_ret
              exact ⟨rfl, hb0⟩
            · obtain rfl : b = false := iff_false k3 hq
              have hsq := ba_ne hq
              clear k3 hq
              go_wp2
              go_ret
              exact ⟨rfl, hb0⟩
      · obtain rfl : b = false := iff_false HB.out (fun q => hl q.2.2.1)
        have hq : (st == st') = false := by rw [beq_eq_false_iff_ne]; exact hl
        clear hl HB HC1 HC2 HC3
        go_wp2
        go_ret
        exact ⟨rfl, hb0⟩
    · obtain rfl : b = false := iff_false HB.out (fun q => he q.2.1)
      have hq : (lo == lo') = false := by rw [beq_eq_false_iff_ne]; exact he
      clear he HB HC1 HC2 HC3
      go_wp2
      go_ret
      exact ⟨rfl, hb0⟩
  · obtain rfl : b = false := iff_false HB.out (fun q => hs q.1)
    have hss := ba_ne hs
    clear hs HB HC1 HC2 HC3
    go_wp2
    go_ret
    exact ⟨rfl, hb0⟩
set_option maxHeartbeats 4000000 in
set_option maxRecDepth 100000 in
theorem iro_as {w : World} {pa pa' ra ra' ca ca' : Option Addr} {pn pn' pc pc' rn rn' rc rc' cn cn' cc cc' : Nat} {ps ps' rs rs' : List Int} {cs cs' : List Nat} {lo lo' st st' : Int} {s s' : ByteArray} (hpn : pn = ps.length) (hpn' : pn' = ps'.length) (hrn : rn = rs.length) (hrn' : rn' = rs'.length) (hcn : cn = cs.length) (hcn' : cn' = cs'.length)
    (hp : RowAt w pa 1 ps.length (inF ps)) (hp' : RowAt w pa' 1 ps'.length (inF ps')) (hr : RowAt w ra 1 rs.length (inF rs)) (hr' : RowAt w ra' 1 rs'.length (inF rs')) (hc : Lies w ca cs) (hc' : Lies w ca' cs') (hpm : pn ≤ big) (hrm : rn ≤ big) (hcm : cn ≤ big) (b : Bool) (hb : b = true ↔ s = s' ∧ lo = lo' ∧ st = st' ∧ ps = ps' ∧ rs = rs' ∧ cs = cs') :
    Calls Try.prog 14 #[.agg (roV s pa pn pc ra rn rc lo st ca cn cc), .agg (roV s' pa' pn' pc' ra' rn' rc' lo' st' ca' cn' cc')] w fun e w' => e = .returned (.bool b) ∧ Below w.heap.size w w' := by
  have o1 := (Own.new w (roV s pa pn pc ra rn rc lo st ca cn cc) 39).alloc (.cells (roV s' pa' pn' pc' ra' rn' rc' lo' st' ca' cn' cc') 39)
  have o2 := Own.new (w.alloc (.cells (roV s pa pn pc ra rn rc lo st ca cn cc) 39)) (roV s' pa' pn' pc' ra' rn' rc' lo' st' ca' cn' cc') 39
  rw [World.size_alloc] at o2
  have hb0 : Below w.heap.size w ((w.alloc (.cells (roV s pa pn pc ra rn rc lo st ca cn cc) 39)).alloc (.cells (roV s' pa' pn' pc' ra' rn' rc' lo' st' ca' cn' cc') 39)) := (new_below _ _).alloc (by simp) _
  obtain ⟨b1, hb1⟩ := some_bool (ps = ps')
  obtain ⟨b2, hb2⟩ := some_bool (rs = rs')
  obtain ⟨b3, hb3⟩ := some_bool (cs = cs')
  have HC1 : Hid (∀ W, Below w.heap.size w W → Calls Try.prog 24 #[.slice pa pn pc, .slice pa' pn' pc'] W fun e w' => e = .returned (.bool b1) ∧ Below W.heap.size W w') := fun W q => eqInts_as hpn hpn' (hp.below q) (hp'.below q) hpm b1 hb1
  have HC2 : Hid (∀ W, Below w.heap.size w W → Calls Try.prog 24 #[.slice ra rn rc, .slice ra' rn' rc'] W fun e w' => e = .returned (.bool b2) ∧ Below W.heap.size W w') := fun W q => eqInts_as hrn hrn' (hr.below q) (hr'.below q) hrm b2 hb2
  have HC3 : Hid (∀ W, Below w.heap.size w W → Calls Try.prog 25 #[.slice ca cn cc, .slice ca' cn' cc'] W fun e w' => e = .returned (.bool b3) ∧ Below W.heap.size W w') := fun W q => eqBytes_as hcn hcn' (lies_row1 (hc.below q)) (lies_row1 (hc'.below q)) hcm b3 hb3
  have HB : Hid (b = true ↔ s = s' ∧ lo = lo' ∧ st = st' ∧ b1 = true ∧ b2 = true ∧ b3 = true) := hb.trans (by rw [hb1, hb2, hb3])
  clear hpn hpn' hrn hrn' hcn hcn' hp hp' hr hr' hc hc' hb hb1 hb2 hb3 hpm hrm hcm
  go_enter Try.func14, Try.ntmps14
  go_upto_region 1 with fail
  generalize (w.alloc (.cells (roV s pa pn pc ra rn rc lo st ca cn cc) 39)).alloc (.cells (roV s' pa' pn' pc' ra' rn' rc' lo' st' ca' cn' cc') 39) = w2 at *
  obtain ⟨x0, x1, x2, x3, x4, x5, xf⟩ := own6 o1
  obtain ⟨y0, y1, y2, y3, y4, y5, yf⟩ := own6 o2
  by_cases hs : s = s'
  · subst hs
    have hss := ba_self s
    by_cases he : lo = lo'
    · subst he
      by_cases hl : st = st'
      · subst hl
        clear x0 x1 x2 x3 x4 x5 xf y0 y1 y2 y3 y4 y5 yf
        obtain ⟨x0, x1, x2, x3, x4, x5, xf⟩ := own6 o1
        obtain ⟨y0, y1, y2, y3, y4, y5, yf⟩ := own6 o2
        go_wp2_with fail
        refine Calls.mono (HC1.out w2 hb0) ?_
        rintro e w3 ⟨rfl, b3'⟩
        clear x0 x1 x2 x3 x4 x5 xf y0 y1 y2 y3 y4 y5 yf
        replace hb0 := hb0.trans (b3'.mono hb0.size)
        replace o1 := o1.below b3'
        replace o2 := o2.below b3'
        obtain ⟨x0, x1, x2, x3, x4, x5, xf⟩ := own6 o1
        obtain ⟨y0, y1, y2, y3, y4, y5, yf⟩ := own6 o2
        cases b1 with
        | false =>
          obtain rfl : b = false := iff_false HB.out (fun q => by simp at q)
          clear HB HC2 HC3 o1 o2
          go_wp2
          go_ret
          exact ⟨rfl, hb0⟩
        | true =>
          go_wp2_with fail
          refine Calls.mono (HC2.out w3 hb0) ?_
          rintro e w4 ⟨rfl, b4'⟩
          clear x0 x1 x2 x3 x4 x5 xf y0 y1 y2 y3 y4 y5 yf
          replace hb0 := hb0.trans (b4'.mono hb0.size)
          replace o1 := o1.below b4'
          replace o2 := o2.below b4'
          obtain ⟨x0, x1, x2, x3, x4, x5, xf⟩ := own6 o1
          obtain ⟨y0, y1, y2, y3, y4, y5, yf⟩ := own6 o2
          cases b2 with
          | false =>
            obtain rfl : b = false := iff_false HB.out (fun q => by simp at q)
            clear HB HC2 HC3 o1 o2
            go_wp2
            go_ret
            exact ⟨rfl, hb0⟩
          | true =>
            obtain rfl : b = b3 := Bool.eq_iff_iff.2 ⟨fun q => (HB.out.1 q).2.2.2.2.2, fun q => HB.out.2 (by simp [q])⟩
            clear HB HC1 HC2
            go_wp2_with fail
            refine Calls.mono (HC3.out w4 hb0) ?_
            rintro e w5 ⟨rfl, b5'⟩
            replace hb0 := hb0.trans (b5'.mono hb0.size)
            cases b <;> (go_wp2; go_ret; exact ⟨rfl, hb0⟩)
      · obtain rfl : b = false := iff_false HB.out (fun q => hl q.2.2.1)
        have hq : (st == st') = false := by rw [beq_eq_false_iff_ne]; exact hl
        clear hl HB HC1 HC2 HC3
        go_wp2
        go_ret
        exact ⟨rfl, hb0⟩
    · obtain rfl : b = false := iff_false HB.out (fun q => he q.2.1)
      have hq : (lo == lo') = false := by rw [beq_eq_false_iff_ne]; exact he
      clear he HB HC1 HC2 HC3
      go_wp2
      go_ret
      exact ⟨rfl, hb0⟩
  · obtain rfl : b = false := iff_false HB.out (fun q => hs q.1)
    have hss := ba_ne hs
    clear hs HB HC1 HC2 HC3
    go_wp2
    go_ret
    exact ⟨rfl, hb0⟩
end Go.Proofs.Ytghkanagiobggaa
