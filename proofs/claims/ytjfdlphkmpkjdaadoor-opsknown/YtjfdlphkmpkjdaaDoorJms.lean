/-
  ROWS HELD AGAINST EACH OTHER: the kit's SameInts, SameFields; slices.Equal of numbers, bytes, texts, fields.
  TYPES AND FUNCTIONS HELD AGAINST EACH OTHER: the kit's SameType, SameRoutine; image's sameType, sameFunc.
  MODULES HELD AGAINST EACH OTHER: slices.EqualFunc of types and of functions, image.Same; the kit's SameModule.
  THE KIT'S SameModule.
-/
import Derived.Test.YtjfdlphkmpkjdaaDoorJbs
namespace Go.Proofs.YtjfdlphkmpkjdaaDoor
open Go.RowKit
set_option linter.unusedVariables false

theorem ba_ne {a b : ByteArray} (h : ¬ a = b) : (a.toList == b.toList) = false := by rw [ba_eq]; simp [h]
theorem ba_self (a : ByteArray) : (a.toList == a.toList) = true := by rw [ba_eq]; simp
set_option maxHeartbeats 2000000 in
set_option maxRecDepth 100000 in
theorem sameInts_as {w : World} {a a' : Option Addr} {n n' c c' : Nat} {xs ys : List Int} (hn : n = xs.length) (hn' : n' = ys.length) (h : RowAt w a 1 xs.length (inF xs)) (h' : RowAt w a' 1 ys.length (inF ys)) (hm : n ≤ big) (b : Bool) (hb : b = true ↔ xs = ys) :
    Calls Tryd.prog 11 #[.slice a n c, .slice a' n' c'] w fun e w' => e = .returned (.bool b) ∧ Below w.heap.size w w' := by
  by_cases hne : n = n'
  · subst hne
    have HN : Hid (n = xs.length) := hn
    have HN' : Hid (n = ys.length) := hn'
    have H1 : Hid (RowAt w a 1 xs.length (inF xs)) := h
    have H2 : Hid (RowAt w a' 1 ys.length (inF ys)) := h'
    have HB : Hid (b = true ↔ xs = ys) := hb
    have hm : n ≤ 140737488355328 := hm
    clear hn hn' h h' hb
    go_enter Tryd.func11, Tryd.ntmps11
    go_wp2_with fail
    go_loopw [5] (fun i wr => ∃ k q : Nat, k ≤ n ∧ i = .int .i64 (k : Int) ∧ wr = w.drewN q ∧ ∀ j, j < k → xs.getD j 0 = ys.getD j 0) (fun i _ => n - (intOf i).toNat)
    case atStart => exact ⟨0, 0, Nat.zero_le _, rfl, rfl, fun j hj => by omega⟩
    case round =>
      obtain ⟨k, q, hk, rfl, rfl, hpre⟩ := hrel
      by_cases hlt : k < n
      · obtain ⟨b1, o1, rfl, g1⟩ := H1.out.at (i := k) (by rw [← HN.out]; exact hlt)
        obtain ⟨b2, o2, rfl, g2⟩ := H2.out.at (i := k) (by rw [← HN'.out]; exact hlt)
        have d0 : w.cell? ⟨b1, o1 + k, none⟩ = some (.int .i64 (xs.getD k 0)) := by have := g1 0 (by omega); rw [Nat.mul_one] at this; exact this
        have d2 : w.cell? ⟨b2, o2 + k, none⟩ = some (.int .i64 (ys.getD k 0)) := by have := g2 0 (by omega); rw [Nat.mul_one] at this; exact this
        clear g1 g2
        have hlt2 : (k : Int) < (n : Int) := by omega
        have hk0 : (0 : Int) ≤ (k : Int) := by omega
        by_cases he : xs.getD k 0 = ys.getD k 0
        · have HP : Hid (∀ j, j < k + 1 → xs.getD j 0 = ys.getD j 0) := fun j hj => by
            by_cases q : j = k
            · subst q; exact he
            · exact hpre j (by omega)
          rw [he] at d0
          clear he hpre
          generalize (ys.getD k 0) = V at *
          go_wp2_with fail
          go_quiet (fail)
          go_wp2
          go_roundw
          case rel => exact ⟨k + 1, _, hlt, by go_num, rfl, HP.out⟩
          case measure => simp [intOf]; omega
        · obtain rfl : b = false := iff_false HB.out (fun q => he (by rw [q]))
          clear hpre
          have hne2 : ((xs.getD k 0) == (ys.getD k 0)) = false := by rw [beq_eq_false_iff_ne]; exact he
          generalize (xs.getD k 0) = V at *
          generalize (ys.getD k 0) = V' at *
          clear he
          go_wp2_with fail
          go_quiet (fail)
          go_wp2
          go_ret
          exact ⟨rfl, below_drawn (below_drewN w q) _⟩
      · obtain rfl : k = n := by omega
        obtain rfl : b = true := HB.out.2 (list_eq 0 (by rw [← HN.out, ← HN'.out]) (fun j hj => hpre j (by rw [HN.out]; exact hj)))
        go_wp2
        go_ret
        exact ⟨rfl, below_drewN w q⟩
  · obtain rfl : b = false := iff_false hb (fun q => hne (by rw [hn, hn', q]))
    have hq : ((n : Int) == (n' : Int)) = false := by rw [beq_eq_false_iff_ne]; omega
    clear h h' hb hn hn' hm
    generalize (n : Int) = N at *
    generalize (n' : Int) = N' at *
    go_enter Tryd.func11, Tryd.ntmps11
    go_wp2
    go_ret
    exact ⟨rfl, Below.refl _ _⟩
set_option maxHeartbeats 2000000 in
set_option maxRecDepth 100000 in
theorem sameFields_as {w : World} {a a' : Option Addr} {n n' c c' : Nat} {xs ys : List Fl} (hn : n = xs.length) (hn' : n' = ys.length) (h : RowAt w a 2 xs.length (flF xs)) (h' : RowAt w a' 2 ys.length (flF ys)) (hm : n ≤ big) (b : Bool) (hb : b = true ↔ xs = ys) :
    Calls Tryd.prog 73 #[.slice a n c, .slice a' n' c'] w fun e w' => e = .returned (.bool b) ∧ Below w.heap.size w w' := by
  by_cases hne : n = n'
  · subst hne
    have HN : Hid (n = xs.length) := hn
    have HN' : Hid (n = ys.length) := hn'
    have H1 : Hid (RowAt w a 2 xs.length (flF xs)) := h
    have H2 : Hid (RowAt w a' 2 ys.length (flF ys)) := h'
    have HB : Hid (b = true ↔ xs = ys) := hb
    have hm : n ≤ 140737488355328 := hm
    clear hn hn' h h' hb
    go_enter Tryd.func73, Tryd.ntmps73
    go_wp2_with fail
    go_loopw [5] (fun i wr => ∃ k q : Nat, k ≤ n ∧ i = .int .i64 (k : Int) ∧ wr = w.drewN q ∧ ∀ j, j < k → xs.getD j zFl = ys.getD j zFl) (fun i _ => n - (intOf i).toNat)
    case atStart => exact ⟨0, 0, Nat.zero_le _, rfl, rfl, fun j hj => by omega⟩
    case round =>
      obtain ⟨k, q, hk, rfl, rfl, hpre⟩ := hrel
      by_cases hlt : k < n
      · obtain ⟨b1, o1, rfl, g1⟩ := H1.out.at (i := k) (by rw [← HN.out]; exact hlt)
        obtain ⟨b2, o2, rfl, g2⟩ := H2.out.at (i := k) (by rw [← HN'.out]; exact hlt)
        have d0 : w.cell? ⟨b1, o1 + k * 2, none⟩ = some (.string (xs.getD k zFl).name) := g1 0 (by omega)
        have d1 : w.cell? ⟨b1, o1 + k * 2 + 1, none⟩ = some (.int .i64 (xs.getD k zFl).typ) := g1 1 (by omega)
        have d2 : w.cell? ⟨b2, o2 + k * 2, none⟩ = some (.string (ys.getD k zFl).name) := g2 0 (by omega)
        have d3 : w.cell? ⟨b2, o2 + k * 2 + 1, none⟩ = some (.int .i64 (ys.getD k zFl).typ) := g2 1 (by omega)
        clear g1 g2
        have hlt2 : (k : Int) < (n : Int) := by omega
        have hk0 : (0 : Int) ≤ (k : Int) := by omega
        by_cases he : xs.getD k zFl = ys.getD k zFl
        · have HP : Hid (∀ j, j < k + 1 → xs.getD j zFl = ys.getD j zFl) := fun j hj => by
            by_cases q : j = k
            · subst q; exact he
            · exact hpre j (by omega)
          rw [he] at d0 d1
          clear he hpre
          generalize ys.getD k zFl = Y at *
          obtain ⟨s, t⟩ := Y
          simp only at d0 d1 d2 d3
          have hss := ba_self s
          go_wp2_with fail
          go_quiet (fail)
          go_wp2
          go_roundw
          case rel => exact ⟨k + 1, _, hlt, by go_num, rfl, HP.out⟩
          case measure => simp [intOf]; omega
        · obtain rfl : b = false := iff_false HB.out (fun q => he (by rw [q]))
          clear hpre
          generalize xs.getD k zFl = X at *
          generalize ys.getD k zFl = Y at *
          obtain ⟨s, t⟩ := X
          obtain ⟨s', t'⟩ := Y
          simp only at d0 d1 d2 d3
          by_cases hs : s = s'
          · subst hs
            have ht : (t == t') = false := by
              rw [beq_eq_false_iff_ne]
              intro q; subst q; exact he rfl
            have hss := ba_self s
            clear he
            go_wp2_with fail
            go_quiet (fail)
            go_wp2
            go_ret
            exact ⟨rfl, below_drawn (below_drewN w q) _⟩
          · have hss := ba_ne hs
            clear he
            go_wp2_with fail
            go_quiet (fail)
            go_wp2
            go_ret
            exact ⟨rfl, below_drawn (below_drewN w q) _⟩
      · obtain rfl : k = n := by omega
        obtain rfl : b = true := HB.out.2 (list_eq zFl (by rw [← HN.out, ← HN'.out]) (fun j hj => hpre j (by rw [HN.out]; exact hj)))
        go_wp2
        go_ret
        exact ⟨rfl, below_drewN w q⟩
  · obtain rfl : b = false := iff_false hb (fun q => hne (by rw [hn, hn', q]))
    have hq : ((n : Int) == (n' : Int)) = false := by rw [beq_eq_false_iff_ne]; omega
    clear h h' hb hn hn' hm
    generalize (n : Int) = N at *
    generalize (n' : Int) = N' at *
    go_enter Tryd.func73, Tryd.ntmps73
    go_wp2
    go_ret
    exact ⟨rfl, Below.refl _ _⟩
end Go.Proofs.YtjfdlphkmpkjdaaDoor
namespace Go.Proofs.YtjfdlphkmpkjdaaDoor
open Go.RowKit
set_option linter.unusedVariables false

theorem own5 {w : World} {g : Nat} {a0 a1 a2 a3 a4 : Value} {t : TypeId} (h : Own w g #[a0, a1, a2, a3, a4] t) : w.cell? ⟨g, 0, none⟩ = some a0 ∧ w.cell? ⟨g, 1, none⟩ = some a1 ∧ w.cell? ⟨g, 2, none⟩ = some a2 ∧ w.cell? ⟨g, 3, none⟩ = some a3 ∧ w.cell? ⟨g, 4, none⟩ = some a4 ∧ ∀ j, w.frozen? ⟨g, j, none⟩ = false := ⟨h.cell 0, h.cell 1, h.cell 2, h.cell 3, h.cell 4, h.froz⟩
theorem own6s {w : World} {g : Nat} {a0 a1 a2 a3 a4 a5 : Value} {t : TypeId} (h : Own w g #[a0, a1, a2, a3, a4, a5] t) : w.cell? ⟨g, 0, none⟩ = some a0 ∧ w.cell? ⟨g, 1, none⟩ = some a1 ∧ w.cell? ⟨g, 2, none⟩ = some a2 ∧ w.cell? ⟨g, 3, none⟩ = some a3 ∧ w.cell? ⟨g, 4, none⟩ = some a4 ∧ w.cell? ⟨g, 5, none⟩ = some a5 ∧ ∀ j, w.frozen? ⟨g, j, none⟩ = false := ⟨h.cell 0, h.cell 1, h.cell 2, h.cell 3, h.cell 4, h.cell 5, h.froz⟩
abbrev tyV (K : Int) (s : ByteArray) (a : Option Addr) (n c : Nat) (E L : Int) : Array Value := #[.int .u8 K, .string s, .slice a n c, .int .i64 E, .int .i64 L]
abbrev roV (s : ByteArray) (pa : Option Addr) (pn pc : Nat) (ra : Option Addr) (rn rc : Nat) (lo st : Int) (ca : Option Addr) (cn cc : Nat) : Array Value := #[.string s, .slice pa pn pc, .slice ra rn rc, .int .i64 lo, .int .i64 st, .slice ca cn cc]
theorem lies_row1 {w : World} {a : Option Addr} {xs : List Nat} (h : Lies w a xs) : RowAt w a 1 xs.length (byF xs) := by
  rcases h.2.2 with h0 | ⟨b, off, rfl, hc⟩
  · exact .inl (by rw [h0]; rfl)
  · refine .inr ⟨b, off, rfl, fun i hi d hd => ?_⟩
    obtain rfl : d = 0 := by omega
    rw [Nat.mul_one]
    exact hc i hi
theorem strN_inj {xs ys : List Nat} (hx : ∀ c ∈ xs, c < 256) (hy : ∀ c ∈ ys, c < 256) (h : strN xs = strN ys) : xs = ys := by
  have h2 : xs.map (fun (c : Nat) => UInt8.ofNat (c : Int).toNat) = ys.map (fun (c : Nat) => UInt8.ofNat (c : Int).toNat) := by
    have := congrArg (fun b : ByteArray => b.data.toList) h
    simpa [strN, strOfNums_data, List.map_map, Function.comp_def] using this
  clear h
  induction xs generalizing ys with
  | nil => cases ys with
    | nil => rfl
    | cons y r => cases h2
  | cons x r ih => cases ys with
    | nil => cases h2
    | cons y r' =>
      simp only [List.map_cons, List.cons.injEq, Int.toNat_natCast] at h2
      have e1 : x = y := by
        have hx1 := hx x (by simp)
        have hy1 := hy y (by simp)
        have := congrArg UInt8.toNat h2.1
        simp only [UInt8.toNat_ofNat'] at this
        omega
      rw [e1, ih (ys := r') (fun c hc => hx c (List.mem_cons_of_mem _ hc)) (fun c hc => hy c (List.mem_cons_of_mem _ hc)) (by simpa using h2.2)]
set_option maxHeartbeats 2000000 in
set_option maxRecDepth 100000 in
theorem kty_as {w : World} {a a' : Option Addr} {n n' c c' : Nat} {xs ys : List Fl} {K K' E E' L L' : Int} {s s' : ByteArray} (hn : n = xs.length) (hn' : n' = ys.length) (h : RowAt w a 2 xs.length (flF xs)) (h' : RowAt w a' 2 ys.length (flF ys)) (hm : n ≤ big) (b : Bool) (hb : b = true ↔ K = K' ∧ s = s' ∧ E = E' ∧ L = L' ∧ xs = ys) :
    Calls Tryd.prog 51 #[.agg (tyV K s a n c E L), .agg (tyV K' s' a' n' c' E' L')] w fun e w' => e = .returned (.bool b) ∧ Below w.heap.size w w' := by
  have o1 := (Own.new w (tyV K s a n c E L) 57).alloc (.cells (tyV K' s' a' n' c' E' L') 57)
  have o2 := Own.new (w.alloc (.cells (tyV K s a n c E L) 57)) (tyV K' s' a' n' c' E' L') 57
  rw [World.size_alloc] at o2
  have hb0 : Below w.heap.size w ((w.alloc (.cells (tyV K s a n c E L) 57)).alloc (.cells (tyV K' s' a' n' c' E' L') 57)) := (new_below _ _).alloc (by simp) _
  obtain ⟨b', hb'⟩ := some_bool (xs = ys)
  have HC : Hid (∀ W, Below w.heap.size w W → Calls Tryd.prog 73 #[.slice a n c, .slice a' n' c'] W fun e w' => e = .returned (.bool b') ∧ Below W.heap.size W w') := fun W q => sameFields_as hn hn' (h.below q) (h'.below q) hm b' hb'
  have HB : Hid (b = true ↔ K = K' ∧ s = s' ∧ E = E' ∧ L = L' ∧ b' = true) := hb.trans (by rw [hb'])
  clear hn hn' h h' hb hb' hm
  go_enter Tryd.func51, Tryd.ntmps51
  go_upto_region 1 with fail
  generalize (w.alloc (.cells (tyV K s a n c E L) 57)).alloc (.cells (tyV K' s' a' n' c' E' L') 57) = w2 at *
  obtain ⟨x0, x1, x2, x3, x4, xf⟩ := own5 o1
  obtain ⟨y0, y1, y2, y3, y4, yf⟩ := own5 o2
  clear o1 o2
  by_cases hk : K = K'
  · subst hk
    by_cases hs : s = s'
    · subst hs
      have hss := ba_self s
      by_cases he : E = E'
      · subst he
        by_cases hl : L = L'
        · subst hl
          obtain rfl : b = b' := Bool.eq_iff_iff.2 ⟨fun q => (HB.out.1 q).2.2.2.2, fun q => HB.out.2 ⟨rfl, rfl, rfl, rfl, q⟩⟩
          clear HB
          go_wp2_with fail
          refine Calls.mono (HC.out w2 hb0) ?_
          rintro e w3 ⟨rfl, b3⟩
          replace hb0 := hb0.trans (b3.mono hb0.size)
          cases b <;> (go_wp2; go_ret; exact ⟨rfl, hb0⟩)
        · obtain rfl : b = false := iff_false HB.out (fun q => hl q.2.2.2.1)
          have hq : (L == L') = false := by rw [beq_eq_false_iff_ne]; exact hl
          clear hl HB HC
          go_wp2
          go_ret
          exact ⟨rfl, hb0⟩
      · obtain rfl : b = false := iff_false HB.out (fun q => he q.2.2.1)
        have hq : (E == E') = false := by rw [beq_eq_false_iff_ne]; exact he
        clear he HB HC
        go_wp2
        go_ret
        exact ⟨rfl, hb0⟩
    · obtain rfl : b = false := iff_false HB.out (fun q => hs q.2.1)
      have hss := ba_ne hs
      clear hs HB HC
      go_wp2
      go_ret
      exact ⟨rfl, hb0⟩
  · obtain rfl : b = false := iff_false HB.out (fun q => hk q.1)
    have hq : (K == K') = false := by rw [beq_eq_false_iff_ne]; exact hk
    clear hk HB HC
    go_wp2
    go_ret
    exact ⟨rfl, hb0⟩
set_option maxHeartbeats 4000000 in
set_option maxRecDepth 100000 in
theorem kro_as {w : World} {pa pa' ra ra' ca ca' : Option Addr} {pn pn' pc pc' rn rn' rc rc' cn cn' cc cc' : Nat} {ps ps' rs rs' : List Int} {cs cs' : List Nat} {lo lo' st st' : Int} {s s' : ByteArray} (hpn : pn = ps.length) (hpn' : pn' = ps'.length) (hrn : rn = rs.length) (hrn' : rn' = rs'.length) (hcn : cn = cs.length) (hcn' : cn' = cs'.length)
    (hp : RowAt w pa 1 ps.length (inF ps)) (hp' : RowAt w pa' 1 ps'.length (inF ps')) (hr : RowAt w ra 1 rs.length (inF rs)) (hr' : RowAt w ra' 1 rs'.length (inF rs')) (hc : Lies w ca cs) (hc' : Lies w ca' cs') (hpm : pn ≤ big) (hrm : rn ≤ big) (hcm : cn ≤ big) (b : Bool) (hb : b = true ↔ s = s' ∧ lo = lo' ∧ st = st' ∧ ps = ps' ∧ rs = rs' ∧ cs = cs') :
    Calls Tryd.prog 52 #[.agg (roV s pa pn pc ra rn rc lo st ca cn cc), .agg (roV s' pa' pn' pc' ra' rn' rc' lo' st' ca' cn' cc')] w fun e w' => e = .returned (.bool b) ∧ Below w.heap.size w w' := by
  have o1 := (Own.new w (roV s pa pn pc ra rn rc lo st ca cn cc) 59).alloc (.cells (roV s' pa' pn' pc' ra' rn' rc' lo' st' ca' cn' cc') 59)
  have o2 := Own.new (w.alloc (.cells (roV s pa pn pc ra rn rc lo st ca cn cc) 59)) (roV s' pa' pn' pc' ra' rn' rc' lo' st' ca' cn' cc') 59
  rw [World.size_alloc] at o2
  have hb0 : Below w.heap.size w ((w.alloc (.cells (roV s pa pn pc ra rn rc lo st ca cn cc) 59)).alloc (.cells (roV s' pa' pn' pc' ra' rn' rc' lo' st' ca' cn' cc') 59)) := (new_below _ _).alloc (by simp) _
  obtain ⟨b1, hb1⟩ := some_bool (ps = ps')
  obtain ⟨b2, hb2⟩ := some_bool (rs = rs')
  obtain ⟨b3, hb3⟩ := some_bool (cs = cs')
  have HC1 : Hid (∀ W, Below w.heap.size w W → Calls Tryd.prog 11 #[.slice pa pn pc, .slice pa' pn' pc'] W fun e w' => e = .returned (.bool b1) ∧ Below W.heap.size W w') := fun W q => sameInts_as hpn hpn' (hp.below q) (hp'.below q) hpm b1 hb1
  have HC2 : Hid (∀ W, Below w.heap.size w W → Calls Tryd.prog 11 #[.slice ra rn rc, .slice ra' rn' rc'] W fun e w' => e = .returned (.bool b2) ∧ Below W.heap.size W w') := fun W q => sameInts_as hrn hrn' (hr.below q) (hr'.below q) hrm b2 hb2
  have HC3 : Hid (∀ W, Below w.heap.size w W → (convert 46 9 (.slice ca cn cc)).run Tryd.prog W = .ok (.string (strN cs)) W) := fun W q => conv_any (hc.below q) hcn
  have HC4 : Hid (∀ W, Below w.heap.size w W → (convert 46 9 (.slice ca' cn' cc')).run Tryd.prog W = .ok (.string (strN cs')) W) := fun W q => conv_any (hc'.below q) hcn'
  have HS : Hid (b3 = true ↔ strN cs = strN cs') := hb3.trans ⟨fun q => by rw [q], strN_inj hc.1 hc'.1⟩
  have HB : Hid (b = true ↔ s = s' ∧ lo = lo' ∧ st = st' ∧ b1 = true ∧ b2 = true ∧ b3 = true) := hb.trans (by rw [hb1, hb2, hb3])
  clear hpn hpn' hrn hrn' hcn hcn' hp hp' hr hr' hc hc' hb hb1 hb2 hb3 hpm hrm hcm
  go_enter Tryd.func52, Tryd.ntmps52
  go_upto_region 1 with fail
  generalize (w.alloc (.cells (roV s pa pn pc ra rn rc lo st ca cn cc) 59)).alloc (.cells (roV s' pa' pn' pc' ra' rn' rc' lo' st' ca' cn' cc') 59) = w2 at *
  obtain ⟨x0, x1, x2, x3, x4, x5, xf⟩ := own6s o1
  obtain ⟨y0, y1, y2, y3, y4, y5, yf⟩ := own6s o2
  by_cases hs : s = s'
  · subst hs
    have hss := ba_self s
    by_cases he : lo = lo'
    · subst he
      by_cases hl : st = st'
      · subst hl
        clear x0 x1 x2 x3 x4 x5 xf y0 y1 y2 y3 y4 y5 yf
        obtain ⟨x0, x1, x2, x3, x4, x5, xf⟩ := own6s o1
        obtain ⟨y0, y1, y2, y3, y4, y5, yf⟩ := own6s o2
        go_wp2_with fail
        refine Calls.mono (HC1.out w2 hb0) ?_
        rintro e w3 ⟨rfl, b3'⟩
        clear x0 x1 x2 x3 x4 x5 xf y0 y1 y2 y3 y4 y5 yf
        replace hb0 := hb0.trans (b3'.mono hb0.size)
        replace o1 := o1.below b3'
        replace o2 := o2.below b3'
        obtain ⟨x0, x1, x2, x3, x4, x5, xf⟩ := own6s o1
        obtain ⟨y0, y1, y2, y3, y4, y5, yf⟩ := own6s o2
        cases b1 with
        | false =>
          obtain rfl : b = false := iff_false HB.out (fun q => by simp at q)
          clear HB HC2 HC3 o1 o2
          go_wp2
          go_ret
          exact ⟨rfl, hb0⟩
        | true =>
          go_wp2_with fail
          refine Calls.mono (HC2.out w3 hb0) ?_
          rintro e w4 ⟨rfl, b4'⟩
          clear x0 x1 x2 x3 x4 x5 xf y0 y1 y2 y3 y4 y5 yf
          replace hb0 := hb0.trans (b4'.mono hb0.size)
          replace o1 := o1.below b4'
          replace o2 := o2.below b4'
          obtain ⟨x0, x1, x2, x3, x4, x5, xf⟩ := own6s o1
          obtain ⟨y0, y1, y2, y3, y4, y5, yf⟩ := own6s o2
          cases b2 with
          | false =>
            obtain rfl : b = false := iff_false HB.out (fun q => by simp at q)
            clear HB HC2 HC3 o1 o2
            go_wp2
            go_ret
            exact ⟨rfl, hb0⟩
          | true =>
            obtain rfl : b = b3 := Bool.eq_iff_iff.2 ⟨fun q => (HB.out.1 q).2.2.2.2.2, fun q => HB.out.2 (by simp [q])⟩
            clear HB HC1 HC2
            have k1 := HC3.out w4 hb0
            have k2 := HC4.out w4 hb0
            have k3 := HS.out
            clear HC3 HC4 HS
            generalize strN cs = S1 at *
            generalize strN cs' = S2 at *
            by_cases hq : S1 = S2
            · subst hq
              obtain rfl : b = true := k3.2 rfl
              have hsq := ba_self S1
              clear k3
              go_wp2
              go_ret
              exact ⟨rfl, hb0⟩
            · obtain rfl : b = false := iff_false k3 hq
              have hsq := ba_ne hq
              clear k3 hq
              go_wp2
              go_ret
              exact ⟨rfl, hb0⟩
      · obtain rfl : b = false := iff_false HB.out (fun q => hl q.2.2.1)
        have hq : (st == st') = false := by rw [beq_eq_false_iff_ne]; exact hl
        clear hl HB HC1 HC2 HC3
        go_wp2
        go_ret
        exact ⟨rfl, hb0⟩
    · obtain rfl : b = false := iff_false HB.out (fun q => he q.2.1)
      have hq : (lo == lo') = false := by rw [beq_eq_false_iff_ne]; exact he
      clear he HB HC1 HC2 HC3
      go_wp2
      go_ret
      exact ⟨rfl, hb0⟩
  · obtain rfl : b = false := iff_false HB.out (fun q => hs q.1)
    have hss := ba_ne hs
    clear hs HB HC1 HC2 HC3
    go_wp2
    go_ret
    exact ⟨rfl, hb0⟩
end Go.Proofs.YtjfdlphkmpkjdaaDoor
namespace Go.Proofs.YtjfdlphkmpkjdaaDoor
open Go.RowKit
set_option linter.unusedVariables false

theorem ty_iff (x y : Ty) : x = y ↔ (x.kind : Int) = (y.kind : Int) ∧ x.name = y.name ∧ x.elem = y.elem ∧ x.len = y.len ∧ x.fields = y.fields := by
  cases x; cases y
  simp only [Ty.mk.injEq]
  constructor
  · rintro ⟨rfl, rfl, rfl, rfl, rfl⟩; exact ⟨rfl, rfl, rfl, rfl, rfl⟩
  · rintro ⟨h, rfl, rfl, rfl, rfl⟩; exact ⟨by omega, rfl, rfl, rfl, rfl⟩
theorem ro_iff (x y : Ro) : x = y ↔ x.name = y.name ∧ x.locals = y.locals ∧ x.stack = y.stack ∧ x.params = y.params ∧ x.results = y.results ∧ x.code = y.code := by
  cases x; cases y
  simp only [Ro.mk.injEq]
  constructor
  · rintro ⟨rfl, rfl, rfl, rfl, rfl, rfl⟩; exact ⟨rfl, rfl, rfl, rfl, rfl, rfl⟩
  · rintro ⟨rfl, rfl, rfl, rfl, rfl, rfl⟩; exact ⟨rfl, rfl, rfl, rfl, rfl, rfl⟩
abbrev tyAs (x : TyP) : Array Value := tyV (x.t.kind : Int) x.t.name x.fa x.t.fields.length x.fc x.t.elem x.t.len
abbrev roAs (x : RoP) : Array Value := roV x.r.name x.pa x.r.params.length x.pc x.ra x.r.results.length x.rc x.r.locals x.r.stack x.ca x.r.code.length x.cc
theorem TyIn.fl {w : World} {x : TyP} (h : TyIn w x) : x.t.fields.length ≤ big := h.mx
theorem RoIn.pl {w : World} {x : RoP} (h : RoIn w x) : x.r.params.length ≤ big := h.pmx
theorem RoIn.rl {w : World} {x : RoP} (h : RoIn w x) : x.r.results.length ≤ big := h.rmx
theorem RoIn.cl {w : World} {x : RoP} (h : RoIn w x) : x.r.code.length ≤ big := h.cmx
theorem kty_in {w : World} {x y : TyP} (hx : TyIn w x) (hy : TyIn w y) (b : Bool) (hb : b = true ↔ x.t = y.t) : Calls Tryd.prog 51 #[.agg (tyAs x), .agg (tyAs y)] w fun e w' => e = .returned (.bool b) ∧ Below w.heap.size w w' :=
  kty_as rfl rfl hx.row hy.row hx.fl b (hb.trans (ty_iff _ _))
theorem kro_in {w : World} {x y : RoP} (hx : RoIn w x) (hy : RoIn w y) (b : Bool) (hb : b = true ↔ x.r = y.r) : Calls Tryd.prog 52 #[.agg (roAs x), .agg (roAs y)] w fun e w' => e = .returned (.bool b) ∧ Below w.heap.size w w' :=
  kro_as rfl rfl rfl rfl rfl rfl hx.params hy.params hx.results hy.results hx.code hy.code hx.pl hx.rl hx.cl b (hb.trans (ro_iff _ _))
end Go.Proofs.YtjfdlphkmpkjdaaDoor
namespace Go.Proofs.YtjfdlphkmpkjdaaDoor
open Go.RowKit
set_option linter.unusedVariables false

theorem cells3a {w : World} {g : Nat} {a0 a1 a2 : Value} {t : TypeId} (h : Own w g #[a0, a1, a2] t) : (∀ t : After w, t.1.cell? ⟨g, 0, none⟩ = some a0) ∧ (∀ t : After w, t.1.cell? ⟨g, 1, none⟩ = some a1) ∧ (∀ t : After w, t.1.cell? ⟨g, 2, none⟩ = some a2) :=
  ⟨fun t => (h.below t.2).cell 0, fun t => (h.below t.2).cell 1, fun t => (h.below t.2).cell 2⟩
theorem at_after {w : World} {b o : Nat} {u : Value} (h : w.cell? ⟨b, o, none⟩ = some u) : ∀ t : After w, t.1.cell? ⟨b, o, none⟩ = some u := fun t => (t.2.cell (p := ⟨b, o, none⟩) (World.block_lt_of_cell? w _ h)).trans h
set_option maxHeartbeats 8000000 in
set_option maxRecDepth 100000 in
theorem kSameModule_as {w : World} {A B : MoP} (hA : MoIn w A) (hB : MoIn w B) (b : Bool) (hb : b = true ↔ A.mo = B.mo) :
    Calls Tryd.prog 28 #[.agg A.cs, .agg B.cs] w fun e w' => e = .returned (.bool b) ∧ Below w.heap.size w w' := by
  have o1 := (Own.new w A.cs 29).alloc (.cells B.cs 29)
  have o2 := Own.new (w.alloc (.cells A.cs 29)) B.cs 29
  rw [World.size_alloc] at o2
  have hb0 : Below w.heap.size w ((w.alloc (.cells A.cs 29)).alloc (.cells B.cs 29)) := (new_below _ _).alloc (by simp) _
  have HA : Hid (∀ W, Below w.heap.size w W → MoIn W A) := fun W q => hA.below q
  have HBB : Hid (∀ W, Below w.heap.size w W → MoIn W B) := fun W q => hB.below q
  have HB : Hid (b = true ↔ A.tys.map TyP.t = B.tys.map TyP.t ∧ A.txs = B.txs ∧ A.fns.map RoP.r = B.fns.map RoP.r) := hb.trans (by unfold MoP.mo; simp only [Mo.mk.injEq])
  have hn1 : A.tys.length ≤ 140737488355328 := hA.tmx
  have hn2 : A.txs.length ≤ 140737488355328 := hA.smx
  have hn3 : A.fns.length ≤ 140737488355328 := hA.fmx
  unfold MoP.cs at *
  clear hA hB hb
  obtain ⟨n1, HN1⟩ : ∃ n, Hid (A.tys.length = n) := ⟨_, rfl⟩
  obtain ⟨n2, HN2⟩ : ∃ n, Hid (A.txs.length = n) := ⟨_, rfl⟩
  obtain ⟨n3, HN3⟩ : ∃ n, Hid (A.fns.length = n) := ⟨_, rfl⟩
  obtain ⟨m1, HM1⟩ : ∃ n, Hid (B.tys.length = n) := ⟨_, rfl⟩
  obtain ⟨m2, HM2⟩ : ∃ n, Hid (B.txs.length = n) := ⟨_, rfl⟩
  obtain ⟨m3, HM3⟩ : ∃ n, Hid (B.fns.length = n) := ⟨_, rfl⟩
  obtain ⟨at1, AT1⟩ : ∃ n, Hid (A.ta = n) := ⟨_, rfl⟩
  obtain ⟨as1, AS1⟩ : ∃ n, Hid (A.sa = n) := ⟨_, rfl⟩
  obtain ⟨af1, AF1⟩ : ∃ n, Hid (A.fa = n) := ⟨_, rfl⟩
  obtain ⟨bt1, BT1⟩ : ∃ n, Hid (B.ta = n) := ⟨_, rfl⟩
  obtain ⟨bs1, BS1⟩ : ∃ n, Hid (B.sa = n) := ⟨_, rfl⟩
  obtain ⟨bf1, BF1⟩ : ∃ n, Hid (B.fa = n) := ⟨_, rfl⟩
  rw [HN1.out, HN2.out, HN3.out, AT1.out, AS1.out, AF1.out] at o1
  rw [HM1.out, HM2.out, HM3.out, BT1.out, BS1.out, BF1.out] at o1
  rw [HN1.out, HN2.out, HN3.out, AT1.out, AS1.out, AF1.out] at o2
  rw [HM1.out, HM2.out, HM3.out, BT1.out, BS1.out, BF1.out] at o2
  rw [HN1.out, HN2.out, HN3.out, AT1.out, AS1.out, AF1.out] at hb0
  rw [HM1.out, HM2.out, HM3.out, BT1.out, BS1.out, BF1.out] at hb0
  rw [HN1.out, HN2.out, HN3.out, AT1.out, AS1.out, AF1.out]
  rw [HM1.out, HM2.out, HM3.out, BT1.out, BS1.out, BF1.out]
  rw [HN1.out] at hn1
  rw [HN2.out] at hn2
  rw [HN3.out] at hn3
  generalize A.tc = ac1 at *
  generalize A.sc = ac2 at *
  generalize A.fc = ac3 at *
  generalize B.tc = bc1 at *
  generalize B.sc = bc2 at *
  generalize B.fc = bc3 at *
  go_enter Tryd.func28, Tryd.ntmps28
  go_upto_region 1 with fail
  generalize (w.alloc (.cells #[.slice at1 n1 ac1, .slice as1 n2 ac2, .slice af1 n3 ac3] 29)).alloc (.cells #[.slice bt1 m1 bc1, .slice bs1 m2 bc2, .slice bf1 m3 bc3] 29) = w2 at *
  obtain ⟨x0, x1, x2, xf⟩ := own3 o1
  obtain ⟨y0, y1, y2, yf⟩ := own3 o2
  by_cases hl1 : n1 = m1
  · subst hl1
    by_cases hl2 : n2 = m2
    · subst hl2
      by_cases hl3 : n3 = m3
      · subst hl3
        have HO1 : Hid (Own w2 w.heap.size #[.slice at1 n1 ac1, .slice as1 n2 ac2, .slice af1 n3 ac3] 29) := o1
        have HO2 : Hid (Own w2 (w.heap.size + 1) #[.slice bt1 n1 bc1, .slice bs1 n2 bc2, .slice bf1 n3 bc3] 29) := o2
        have HBE : Hid (Below w.heap.size w w2) := hb0
        clear o1 o2 hb0
        go_wp2_with fail
        clear x0 x1 x2 xf y0 y1 y2 yf
        go_loopw [5] (fun i wr => ∃ k : Nat, k ≤ n1 ∧ i = .int .i64 (k : Int) ∧ Below w2.heap.size w2 wr ∧ ∀ j, j < k → (A.tys.getD j zTP).t = (B.tys.getD j zTP).t) (fun i _ => n1 - (intOf i).toNat)
        case atStart => exact ⟨0, Nat.zero_le _, rfl, Below.refl _ _, fun j hj => by omega⟩
        case round =>
          obtain ⟨k, hk, rfl, hbel, hpre⟩ := hrel
          have o1 := HO1.out.below hbel
          have o2 := HO2.out.below hbel
          have hbw := HBE.out.trans (hbel.mono HBE.out.size)
          by_cases hlt : k < n1
          · have hkx : k < A.tys.length := by rw [HN1.out]; exact hlt
            have hky : k < B.tys.length := by rw [HM1.out]; exact hlt
            obtain ⟨b1, o1', ha1, g1⟩ := (HA.out wr hbw).tyr.at hkx
            obtain ⟨b2, o2', ha2, g2⟩ := (HBB.out wr hbw).tyr.at hky
            have hx0 : at1 = some ⟨b1, o1', none⟩ := by rw [← AT1.out]; exact ha1
            have hy0 : bt1 = some ⟨b2, o2', none⟩ := by rw [← BT1.out]; exact ha2
            rw [hx0] at o1
            rw [hy0] at o2
            obtain ⟨x0, x1, x2⟩ := cells3a o1
            obtain ⟨y0, y1, y2⟩ := cells3a o2
            unfold tyF at g1 g2
            obtain ⟨b', hb'⟩ := some_bool ((A.tys.getD k zTP).t = (B.tys.getD k zTP).t)
            have HP : Hid (b' = true → ∀ j, j < k + 1 → (A.tys.getD j zTP).t = (B.tys.getD j zTP).t) := fun q0 j hj => by
              by_cases q : j = k
              · subst q; exact hb'.1 q0
              · exact hpre j (by omega)
            have HF : Hid (b' = false → b = false) := fun q0 => iff_false HB.out (fun q => by
              have := hb'.2 (getD_of_map zTP q.1 k)
              rw [q0] at this; cases this)
            have hXi := (HA.out wr hbw).ty _ (getD_in (z := zTP) hkx)
            have hYi := (HBB.out wr hbw).ty _ (getD_in (z := zTP) hky)
            generalize A.tys.getD k zTP = X at *
            generalize B.tys.getD k zTP = Y at *
            have Q1 : Hid (∀ t : After wr, Calls Tryd.prog 51 #[.agg #[.int .u8 (X.t.kind : Int), .string X.t.name, .slice X.fa X.t.fields.length X.fc, .int .i64 X.t.elem, .int .i64 X.t.len], .agg #[.int .u8 (Y.t.kind : Int), .string Y.t.name, .slice Y.fa Y.t.fields.length Y.fc, .int .i64 Y.t.elem, .int .i64 Y.t.len]] t.1 fun e w'' => e = .returned (.bool b') ∧ ∃ t' : After wr, w'' = t'.1) := fun t => quiet_new t (kty_in (hXi.below t.2) (hYi.below t.2) b' hb')
            have d0 : ∀ t : After wr, t.1.cell? ⟨b1, o1' + k * 5, none⟩ = some (.int .u8 (X.t.kind : Int)) := at_after (g1 0 (by omega))
            have f0 : ∀ t : After wr, t.1.cell? ⟨b2, o2' + k * 5, none⟩ = some (.int .u8 (Y.t.kind : Int)) := at_after (g2 0 (by omega))
            have d1 : ∀ t : After wr, t.1.cell? ⟨b1, o1' + k * 5 + 1, none⟩ = some (.string X.t.name) := at_after (g1 1 (by omega))
            have f1 : ∀ t : After wr, t.1.cell? ⟨b2, o2' + k * 5 + 1, none⟩ = some (.string Y.t.name) := at_after (g2 1 (by omega))
            have d2 : ∀ t : After wr, t.1.cell? ⟨b1, o1' + k * 5 + 2, none⟩ = some (.slice X.fa X.t.fields.length X.fc) := at_after (g1 2 (by omega))
            have f2 : ∀ t : After wr, t.1.cell? ⟨b2, o2' + k * 5 + 2, none⟩ = some (.slice Y.fa Y.t.fields.length Y.fc) := at_after (g2 2 (by omega))
            have d3 : ∀ t : After wr, t.1.cell? ⟨b1, o1' + k * 5 + 3, none⟩ = some (.int .i64 X.t.elem) := at_after (g1 3 (by omega))
            have f3 : ∀ t : After wr, t.1.cell? ⟨b2, o2' + k * 5 + 3, none⟩ = some (.int .i64 Y.t.elem) := at_after (g2 3 (by omega))
            have d4 : ∀ t : After wr, t.1.cell? ⟨b1, o1' + k * 5 + 4, none⟩ = some (.int .i64 X.t.len) := at_after (g1 4 (by omega))
            have f4 : ∀ t : After wr, t.1.cell? ⟨b2, o2' + k * 5 + 4, none⟩ = some (.int .i64 Y.t.len) := at_after (g2 4 (by omega))
            clear g1 g2 hXi hYi hb' hpre
            generalize (X.t.kind : Int) = pK at *
            generalize X.t.name = ps at *
            generalize X.fa = pa at *
            generalize X.t.fields.length = pn at *
            generalize X.fc = pc at *
            generalize X.t.elem = pE at *
            generalize X.t.len = pL at *
            generalize (Y.t.kind : Int) = qK at *
            generalize Y.t.name = qs at *
            generalize Y.fa = qa at *
            generalize Y.t.fields.length = qn at *
            generalize Y.fc = qc at *
            generalize Y.t.elem = qE at *
            generalize Y.t.len = qL at *
            have hlt2 : (k : Int) < (n1 : Int) := by omega
            have hk0 : (0 : Int) ≤ (k : Int) := by omega
            clear ha1 ha2
            subst hx0 hy0
            have hz0 := (cells3a o1).1 ⟨wr, Below.refl _ _⟩
            have hz1 := (cells3a o2).1 ⟨wr, Below.refl _ _⟩
            go_wp2_with fail
            refine wp_region_after (by kernel_rfl) (by kernel_rfl) ?_
            repeat (go_big_quiet_step (with_reducible exact rfl))
            go_big_quiet_step (exact Q1.out _)
            repeat (go_big_quiet_step (with_reducible exact rfl))
            refine wpQuiet_nil ?_
            rintro w6 ⟨t6, e6⟩
            have b6 : Below wr.heap.size wr w6 := by rw [e6]; exact t6.2
            clear e6 t6 Q1 d0 f0 d1 f1 d2 f2 d3 f3 d4 f4 x0 x1 x2 y0 y1 y2
            replace hbel := hbel.trans (b6.mono hbel.size)
            replace hbw := hbw.trans (b6.mono hbw.size)
            clear b6 o1 o2 hz0 hz1
            cases b' with
            | true =>
              have HP2 : Hid (∀ j, j < k + 1 → (A.tys.getD j zTP).t = (B.tys.getD j zTP).t) := HP.out rfl
              clear HP HF
              go_wp2
              go_roundw
              case rel => exact ⟨k + 1, hlt, by go_num, hbel, HP2.out⟩
              case measure => simp [intOf]; omega
            | false =>
              obtain rfl : b = false := HF.out rfl
              clear HP HF
              go_wp2
              go_ret
              exact ⟨rfl, hbw⟩
          · obtain rfl : k = n1 := by omega
            have E1 : Hid (A.tys.map TyP.t = B.tys.map TyP.t) := list_eq_map zTP (by rw [HN1.out, HM1.out]) (fun j hj => hpre j (by rw [← HN1.out]; exact hj))
            have HB5 : Hid (Below w2.heap.size w2 wr) := hbel
            obtain ⟨x0, x1, x2, xf⟩ := own3 o1
            obtain ⟨y0, y1, y2, yf⟩ := own3 o2
            clear hbel hpre hbw
            go_wp2_with fail
            clear x0 x1 x2 xf y0 y1 y2 yf o1 o2
            go_loopw [6] (fun i wr => ∃ k : Nat, k ≤ n2 ∧ i = .int .i64 (k : Int) ∧ Below w2.heap.size w2 wr ∧ ∀ j, j < k → (A.txs.getD j ⟨#[]⟩) = (B.txs.getD j ⟨#[]⟩)) (fun i _ => n2 - (intOf i).toNat)
            case atStart => exact ⟨0, Nat.zero_le _, rfl, HB5.out, fun j hj => by omega⟩
            case round =>
              obtain ⟨k, hk, rfl, hbel, hpre⟩ := hrel
              have o1 := HO1.out.below hbel
              have o2 := HO2.out.below hbel
              have hbw := HBE.out.trans (hbel.mono HBE.out.size)
              by_cases hlt : k < n2
              · have hkx : k < A.txs.length := by rw [HN2.out]; exact hlt
                have hky : k < B.txs.length := by rw [HM2.out]; exact hlt
                obtain ⟨b1, o1', ha1, g1⟩ := (HA.out wr hbw).txr.at hkx
                obtain ⟨b2, o2', ha2, g2⟩ := (HBB.out wr hbw).txr.at hky
                have hx0 : as1 = some ⟨b1, o1', none⟩ := by rw [← AS1.out]; exact ha1
                have hy0 : bs1 = some ⟨b2, o2', none⟩ := by rw [← BS1.out]; exact ha2
                rw [hx0] at o1
                rw [hy0] at o2
                obtain ⟨x0, x1, x2⟩ := cells3a o1
                obtain ⟨y0, y1, y2⟩ := cells3a o2
                unfold txF at g1 g2
                obtain ⟨b', hb'⟩ := some_bool ((A.txs.getD k ⟨#[]⟩) = (B.txs.getD k ⟨#[]⟩))
                have HP : Hid (b' = true → ∀ j, j < k + 1 → (A.txs.getD j ⟨#[]⟩) = (B.txs.getD j ⟨#[]⟩)) := fun q0 j hj => by
                  by_cases q : j = k
                  · subst q; exact hb'.1 q0
                  · exact hpre j (by omega)
                have HF : Hid (b' = false → b = false) := fun q0 => iff_false HB.out (fun q => by
                  have := hb'.2 (by rw [q.2.1])
                  rw [q0] at this; cases this)
                generalize A.txs.getD k ⟨#[]⟩ = X at *
                generalize B.txs.getD k ⟨#[]⟩ = Y at *
                have d0 : ∀ t : After wr, t.1.cell? ⟨b1, o1' + k, none⟩ = some (.string X) := at_after (by have := g1 0 (by omega); rw [Nat.mul_one] at this; exact this)
                have f0 : ∀ t : After wr, t.1.cell? ⟨b2, o2' + k, none⟩ = some (.string Y) := at_after (by have := g2 0 (by omega); rw [Nat.mul_one] at this; exact this)
                have hss : (X.toList == Y.toList) = b' := by
                  cases b' with
                  | true => rw [hb'.1 rfl]; exact ba_self _
                  | false => exact ba_ne (fun q => by have := hb'.2 q; cases this)
                clear g1 g2 hb' hpre
                have hlt2 : (k : Int) < (n2 : Int) := by omega
                have hk0 : (0 : Int) ≤ (k : Int) := by omega
                clear ha1 ha2
                subst hx0 hy0
                have hz0 := (cells3a o1).2.1 ⟨wr, Below.refl _ _⟩
                have hz1 := (cells3a o2).2.1 ⟨wr, Below.refl _ _⟩
                go_wp2_with fail
                refine wp_region_after (by kernel_rfl) (by kernel_rfl) ?_
                repeat (go_big_quiet_step (with_reducible exact rfl))
                refine wpQuiet_nil ?_
                rintro w6 ⟨t6, e6⟩
                have b6 : Below wr.heap.size wr w6 := by rw [e6]; exact t6.2
                clear e6 t6  d0 f0 x0 x1 x2 y0 y1 y2
                replace hbel := hbel.trans (b6.mono hbel.size)
                replace hbw := hbw.trans (b6.mono hbw.size)
                clear b6 o1 o2 hz0 hz1
                cases b' with
                | true =>
                  have HP2 : Hid (∀ j, j < k + 1 → (A.txs.getD j ⟨#[]⟩) = (B.txs.getD j ⟨#[]⟩)) := HP.out rfl
                  clear HP HF
                  go_wp2
                  go_roundw
                  case rel => exact ⟨k + 1, hlt, by go_num, hbel, HP2.out⟩
                  case measure => simp [intOf]; omega
                | false =>
                  obtain rfl : b = false := HF.out rfl
                  clear HP HF
                  go_wp2
                  go_ret
                  exact ⟨rfl, hbw⟩
              · obtain rfl : k = n2 := by omega
                have E2 : Hid (A.txs = B.txs) := list_eq ⟨#[]⟩ (by rw [HN2.out, HM2.out]) (fun j hj => hpre j (by rw [← HN2.out]; exact hj))
                have HB6 : Hid (Below w2.heap.size w2 wr) := hbel
                obtain ⟨x0, x1, x2, xf⟩ := own3 o1
                obtain ⟨y0, y1, y2, yf⟩ := own3 o2
                clear hbel hpre hbw
                go_wp2_with fail
                clear x0 x1 x2 xf y0 y1 y2 yf o1 o2
                go_loopw [7] (fun i wr => ∃ k : Nat, k ≤ n3 ∧ i = .int .i64 (k : Int) ∧ Below w2.heap.size w2 wr ∧ ∀ j, j < k → (A.fns.getD j zRP).r = (B.fns.getD j zRP).r) (fun i _ => n3 - (intOf i).toNat)
                case atStart => exact ⟨0, Nat.zero_le _, rfl, HB6.out, fun j hj => by omega⟩
                case round =>
                  obtain ⟨k, hk, rfl, hbel, hpre⟩ := hrel
                  have o1 := HO1.out.below hbel
                  have o2 := HO2.out.below hbel
                  have hbw := HBE.out.trans (hbel.mono HBE.out.size)
                  by_cases hlt : k < n3
                  · have hkx : k < A.fns.length := by rw [HN3.out]; exact hlt
                    have hky : k < B.fns.length := by rw [HM3.out]; exact hlt
                    obtain ⟨b1, o1', ha1, g1⟩ := (HA.out wr hbw).fnr.at hkx
                    obtain ⟨b2, o2', ha2, g2⟩ := (HBB.out wr hbw).fnr.at hky
                    have hx0 : af1 = some ⟨b1, o1', none⟩ := by rw [← AF1.out]; exact ha1
                    have hy0 : bf1 = some ⟨b2, o2', none⟩ := by rw [← BF1.out]; exact ha2
                    rw [hx0] at o1
                    rw [hy0] at o2
                    obtain ⟨x0, x1, x2⟩ := cells3a o1
                    obtain ⟨y0, y1, y2⟩ := cells3a o2
                    unfold roF at g1 g2
                    obtain ⟨b', hb'⟩ := some_bool ((A.fns.getD k zRP).r = (B.fns.getD k zRP).r)
                    have HP : Hid (b' = true → ∀ j, j < k + 1 → (A.fns.getD j zRP).r = (B.fns.getD j zRP).r) := fun q0 j hj => by
                      by_cases q : j = k
                      · subst q; exact hb'.1 q0
                      · exact hpre j (by omega)
                    have HF : Hid (b' = false → b = false) := fun q0 => iff_false HB.out (fun q => by
                      have := hb'.2 (getD_of_map zRP q.2.2 k)
                      rw [q0] at this; cases this)
                    have hXi := (HA.out wr hbw).fn _ (getD_in (z := zRP) hkx)
                    have hYi := (HBB.out wr hbw).fn _ (getD_in (z := zRP) hky)
                    generalize A.fns.getD k zRP = X at *
                    generalize B.fns.getD k zRP = Y at *
                    have Q1 : Hid (∀ t : After wr, Calls Tryd.prog 52 #[.agg #[.string X.r.name, .slice X.pa X.r.params.length X.pc, .slice X.ra X.r.results.length X.rc, .int .i64 X.r.locals, .int .i64 X.r.stack, .slice X.ca X.r.code.length X.cc], .agg #[.string Y.r.name, .slice Y.pa Y.r.params.length Y.pc, .slice Y.ra Y.r.results.length Y.rc, .int .i64 Y.r.locals, .int .i64 Y.r.stack, .slice Y.ca Y.r.code.length Y.cc]] t.1 fun e w'' => e = .returned (.bool b') ∧ ∃ t' : After wr, w'' = t'.1) := fun t => quiet_new t (kro_in (hXi.below t.2) (hYi.below t.2) b' hb')
                    have d0 : ∀ t : After wr, t.1.cell? ⟨b1, o1' + k * 6, none⟩ = some (.string X.r.name) := at_after (g1 0 (by omega))
                    have f0 : ∀ t : After wr, t.1.cell? ⟨b2, o2' + k * 6, none⟩ = some (.string Y.r.name) := at_after (g2 0 (by omega))
                    have d1 : ∀ t : After wr, t.1.cell? ⟨b1, o1' + k * 6 + 1, none⟩ = some (.slice X.pa X.r.params.length X.pc) := at_after (g1 1 (by omega))
                    have f1 : ∀ t : After wr, t.1.cell? ⟨b2, o2' + k * 6 + 1, none⟩ = some (.slice Y.pa Y.r.params.length Y.pc) := at_after (g2 1 (by omega))
                    have d2 : ∀ t : After wr, t.1.cell? ⟨b1, o1' + k * 6 + 2, none⟩ = some (.slice X.ra X.r.results.length X.rc) := at_after (g1 2 (by omega))
                    have f2 : ∀ t : After wr, t.1.cell? ⟨b2, o2' + k * 6 + 2, none⟩ = some (.slice Y.ra Y.r.results.length Y.rc) := at_after (g2 2 (by omega))
                    have d3 : ∀ t : After wr, t.1.cell? ⟨b1, o1' + k * 6 + 3, none⟩ = some (.int .i64 X.r.locals) := at_after (g1 3 (by omega))
                    have f3 : ∀ t : After wr, t.1.cell? ⟨b2, o2' + k * 6 + 3, none⟩ = some (.int .i64 Y.r.locals) := at_after (g2 3 (by omega))
                    have d4 : ∀ t : After wr, t.1.cell? ⟨b1, o1' + k * 6 + 4, none⟩ = some (.int .i64 X.r.stack) := at_after (g1 4 (by omega))
                    have f4 : ∀ t : After wr, t.1.cell? ⟨b2, o2' + k * 6 + 4, none⟩ = some (.int .i64 Y.r.stack) := at_after (g2 4 (by omega))
                    have d5 : ∀ t : After wr, t.1.cell? ⟨b1, o1' + k * 6 + 5, none⟩ = some (.slice X.ca X.r.code.length X.cc) := at_after (g1 5 (by omega))
                    have f5 : ∀ t : After wr, t.1.cell? ⟨b2, o2' + k * 6 + 5, none⟩ = some (.slice Y.ca Y.r.code.length Y.cc) := at_after (g2 5 (by omega))
                    clear g1 g2 hXi hYi hb' hpre
                    generalize X.r.name = ps at *
                    generalize X.pa = pa at *
                    generalize X.r.params.length = pn at *
                    generalize X.pc = pc at *
                    generalize X.ra = pA at *
                    generalize X.r.results.length = pN at *
                    generalize X.rc = pC at *
                    generalize X.r.locals = pL at *
                    generalize X.r.stack = pS at *
                    generalize X.ca = pd at *
                    generalize X.r.code.length = pM at *
                    generalize X.cc = pD at *
                    generalize Y.r.name = qs at *
                    generalize Y.pa = qa at *
                    generalize Y.r.params.length = qn at *
                    generalize Y.pc = qc at *
                    generalize Y.ra = qA at *
                    generalize Y.r.results.length = qN at *
                    generalize Y.rc = qC at *
                    generalize Y.r.locals = qL at *
                    generalize Y.r.stack = qS at *
                    generalize Y.ca = qd at *
                    generalize Y.r.code.length = qM at *
                    generalize Y.cc = qD at *
                    have hlt2 : (k : Int) < (n3 : Int) := by omega
                    have hk0 : (0 : Int) ≤ (k : Int) := by omega
                    clear ha1 ha2
                    subst hx0 hy0
                    have hz0 := (cells3a o1).2.2 ⟨wr, Below.refl _ _⟩
                    have hz1 := (cells3a o2).2.2 ⟨wr, Below.refl _ _⟩
                    go_wp2_with fail
                    refine wp_region_after (by kernel_rfl) (by kernel_rfl) ?_
                    repeat (go_big_quiet_step (with_reducible exact rfl))
                    go_big_quiet_step (exact Q1.out _)
                    repeat (go_big_quiet_step (with_reducible exact rfl))
                    refine wpQuiet_nil ?_
                    rintro w6 ⟨t6, e6⟩
                    have b6 : Below wr.heap.size wr w6 := by rw [e6]; exact t6.2
                    clear e6 t6 Q1 d0 f0 d1 f1 d2 f2 d3 f3 d4 f4 d5 f5 x0 x1 x2 y0 y1 y2
                    replace hbel := hbel.trans (b6.mono hbel.size)
                    replace hbw := hbw.trans (b6.mono hbw.size)
                    clear b6 o1 o2 hz0 hz1
                    cases b' with
                    | true =>
                      have HP2 : Hid (∀ j, j < k + 1 → (A.fns.getD j zRP).r = (B.fns.getD j zRP).r) := HP.out rfl
                      clear HP HF
                      go_wp2
                      go_roundw
                      case rel => exact ⟨k + 1, hlt, by go_num, hbel, HP2.out⟩
                      case measure => simp [intOf]; omega
                    | false =>
                      obtain rfl : b = false := HF.out rfl
                      clear HP HF
                      go_wp2
                      go_ret
                      exact ⟨rfl, hbw⟩
                  · obtain rfl : k = n3 := by omega
                    have E3 : Hid (A.fns.map RoP.r = B.fns.map RoP.r) := list_eq_map zRP (by rw [HN3.out, HM3.out]) (fun j hj => hpre j (by rw [← HN3.out]; exact hj))
                    have HB7 : Hid (Below w2.heap.size w2 wr) := hbel
                    obtain ⟨x0, x1, x2, xf⟩ := own3 o1
                    obtain ⟨y0, y1, y2, yf⟩ := own3 o2
                    obtain rfl : b = true := HB.out.2 ⟨E1.out, E2.out, E3.out⟩
                    go_wp2
                    go_ret
                    exact ⟨rfl, hbw⟩
      · obtain rfl : b = false := iff_false HB.out (fun q => hl3 (by rw [← HN3.out, ← HM3.out, ← List.length_map (f := RoP.r), q.2.2, List.length_map]))
        have hq : ((n3 : Int) == (m3 : Int)) = false := by rw [beq_eq_false_iff_ne]; omega
        have hq2 : ((n3 : Int) != (m3 : Int)) = true := by rw [bne, hq]; rfl
        clear HA HBB HB hl3 HN1 HN2 HN3 HM1 HM2 HM3
        go_wp2
        go_ret
        exact ⟨rfl, hb0⟩
    · obtain rfl : b = false := iff_false HB.out (fun q => hl2 (by rw [← HN2.out, ← HM2.out, q.2.1]))
      have hq : ((n2 : Int) == (m2 : Int)) = false := by rw [beq_eq_false_iff_ne]; omega
      have hq2 : ((n2 : Int) != (m2 : Int)) = true := by rw [bne, hq]; rfl
      clear HA HBB HB hl2 HN1 HN2 HN3 HM1 HM2 HM3
      go_wp2
      go_ret
      exact ⟨rfl, hb0⟩
  · obtain rfl : b = false := iff_false HB.out (fun q => hl1 (by rw [← HN1.out, ← HM1.out, ← List.length_map (f := TyP.t), q.1, List.length_map]))
    have hq : ((n1 : Int) == (m1 : Int)) = false := by rw [beq_eq_false_iff_ne]; omega
    have hq2 : ((n1 : Int) != (m1 : Int)) = true := by rw [bne, hq]; rfl
    clear HA HBB HB hl1 HN1 HN2 HN3 HM1 HM2 HM3
    go_wp2
    go_ret
    exact ⟨rfl, hb0⟩
end Go.Proofs.YtjfdlphkmpkjdaaDoor
