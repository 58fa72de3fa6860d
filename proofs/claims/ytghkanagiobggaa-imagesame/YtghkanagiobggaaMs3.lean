/-
  MODULES HELD AGAINST EACH OTHER: slices.EqualFunc of types and of functions, image.Same; the kit's SameModule.
-/
import Derived.Test.YtghkanagiobggaaMs2
namespace Go.Proofs.Ytghkanagiobggaa
open Go.RowKit
set_option linter.unusedVariables false

theorem ty_iff (x y : Ty) : x = y ↔ (x.kind : Int) = (y.kind : Int) ∧ x.name = y.name ∧ x.elem = y.elem ∧ x.len = y.len ∧ x.fields = y.fields := by
  cases x; cases y
  simp only [Ty.mk.injEq]
  constructor
  · rintro ⟨rfl, rfl, rfl, rfl, rfl⟩; exact ⟨rfl, rfl, rfl, rfl, rfl⟩
  · rintro ⟨h, rfl, rfl, rfl, rfl⟩; exact ⟨by omega, rfl, rfl, rfl, rfl⟩
theorem ro_iff (x y : Ro) : x = y ↔ x.name = y.name ∧ x.locals = y.locals ∧ x.stack = y.stack ∧ x.params = y.params ∧ x.results = y.results ∧ x.code = y.code := by
  cases x; cases y
  simp only [Ro.mk.injEq]
  constructor
  · rintro ⟨rfl, rfl, rfl, rfl, rfl, rfl⟩; exact ⟨rfl, rfl, rfl, rfl, rfl, rfl⟩
  · rintro ⟨rfl, rfl, rfl, rfl, rfl, rfl⟩; exact ⟨rfl, rfl, rfl, rfl, rfl, rfl⟩
abbrev tyA (x : TyP) : Array Value := tyV (x.t.kind : Int) x.t.name x.fa x.t.fields.length x.fc x.t.elem x.t.len
abbrev roA (x : RoP) : Array Value := roV x.r.name x.pa x.r.params.length x.pc x.ra x.r.results.length x.rc x.r.locals x.r.stack x.ca x.r.code.length x.cc
theorem TyIn.fl {w : World} {x : TyP} (h : TyIn w x) : x.t.fields.length ≤ big := h.mx
theorem RoIn.pl {w : World} {x : RoP} (h : RoIn w x) : x.r.params.length ≤ big := h.pmx
theorem RoIn.rl {w : World} {x : RoP} (h : RoIn w x) : x.r.results.length ≤ big := h.rmx
theorem RoIn.cl {w : World} {x : RoP} (h : RoIn w x) : x.r.code.length ≤ big := h.cmx
theorem kty_in {w : World} {x y : TyP} (hx : TyIn w x) (hy : TyIn w y) (b : Bool) (hb : b = true ↔ x.t = y.t) : Calls Try.prog 15 #[.agg (tyA x), .agg (tyA y)] w fun e w' => e = .returned (.bool b) ∧ Below w.heap.size w w' :=
  kty_as rfl rfl hx.row hy.row hx.fl b (hb.trans (ty_iff _ _))
theorem kro_in {w : World} {x y : RoP} (hx : RoIn w x) (hy : RoIn w y) (b : Bool) (hb : b = true ↔ x.r = y.r) : Calls Try.prog 16 #[.agg (roA x), .agg (roA y)] w fun e w' => e = .returned (.bool b) ∧ Below w.heap.size w w' :=
  kro_as rfl rfl rfl rfl rfl rfl hx.params hy.params hx.results hy.results hx.code hy.code hx.pl hx.rl hx.cl b (hb.trans (ro_iff _ _))
theorem ity_in {w : World} {x y : TyP} (hx : TyIn w x) (hy : TyIn w y) (b : Bool) (hb : b = true ↔ x.t = y.t) : Calls Try.prog 11 #[.agg (tyA x), .agg (tyA y)] w fun e w' => e = .returned (.bool b) ∧ Below w.heap.size w w' :=
  ity_as rfl rfl hx.row hy.row hx.fl b (hb.trans (ty_iff _ _))
theorem iro_in {w : World} {x y : RoP} (hx : RoIn w x) (hy : RoIn w y) (b : Bool) (hb : b = true ↔ x.r = y.r) : Calls Try.prog 14 #[.agg (roA x), .agg (roA y)] w fun e w' => e = .returned (.bool b) ∧ Below w.heap.size w w' :=
  iro_as rfl rfl rfl rfl rfl rfl hx.params hy.params hx.results hy.results hx.code hy.code hx.pl hx.rl hx.cl b (hb.trans (ro_iff _ _))
set_option maxHeartbeats 4000000 in
set_option maxRecDepth 100000 in
theorem eqfTy_as {w : World} {a a' : Option Addr} {n n' c c' : Nat} {xs ys : List TyP} (hn : n = xs.length) (hn' : n' = ys.length) (h : RowAt w a 5 xs.length (tyF xs)) (h' : RowAt w a' 5 ys.length (tyF ys)) (hx : ∀ x ∈ xs, TyIn w x) (hy : ∀ y ∈ ys, TyIn w y) (hm : n ≤ big) (b : Bool) (hb : b = true ↔ xs.map TyP.t = ys.map TyP.t) :
    Calls Try.prog 10 #[.slice a n c, .slice a' n' c', .func (.func 11) #[] #[]] w fun e w' => e = .returned (.bool b) ∧ Below w.heap.size w w' := by
  by_cases hne : n = n'
  · subst hne
    have HN : Hid (n = xs.length) := hn
    have HN' : Hid (n = ys.length) := hn'
    have H1 : Hid (RowAt w a 5 xs.length (tyF xs)) := h
    have H2 : Hid (RowAt w a' 5 ys.length (tyF ys)) := h'
    have HX : Hid (∀ x ∈ xs, TyIn w x) := hx
    have HY : Hid (∀ x ∈ ys, TyIn w x) := hy
    have HB : Hid (b = true ↔ xs.map TyP.t = ys.map TyP.t) := hb
    have hm : n ≤ 140737488355328 := hm
    clear hn hn' h h' hb hx hy
    go_enter Try.func10, Try.ntmps10
    go_wp2_with fail
    go_loopw [17] (fun i wr => ∃ k : Nat, k ≤ n ∧ i = .int .i64 (k : Int) ∧ Below w.heap.size w wr ∧ ∀ j, j < k → (xs.getD j zTP).t = (ys.getD j zTP).t) (fun i _ => n - (intOf i).toNat)
    case atStart => exact ⟨0, Nat.zero_le _, rfl, Below.refl _ _, fun j hj => by omega⟩
    case round =>
      obtain ⟨k, hk, rfl, hbel, hpre⟩ := hrel
      by_cases hlt : k < n
      · have hkx : k < xs.length := by rw [← HN.out]; exact hlt
        have hky : k < ys.length := by rw [← HN'.out]; exact hlt
        obtain ⟨b1, o1, ha1, g1⟩ := (H1.out.below hbel).at hkx
        obtain ⟨b2, o2, ha2, g2⟩ := (H2.out.below hbel).at hky
        have hXi := HX.out _ (getD_in (z := zTP) hkx)
        have hYi := HY.out _ (getD_in (z := zTP) hky)
        unfold tyF at g1 g2
        obtain ⟨b', hb'⟩ := some_bool ((xs.getD k zTP).t = (ys.getD k zTP).t)
        have HP : Hid (b' = true → ∀ j, j < k + 1 → (xs.getD j zTP).t = (ys.getD j zTP).t) := fun q0 j hj => by
          by_cases q : j = k
          · subst q; exact hb'.1 q0
          · exact hpre j (by omega)
        have HF : Hid (b' = false → b = false) := fun q0 => iff_false HB.out (fun q => by
          have := hb'.2 (getD_of_map zTP q k)
          rw [q0] at this; cases this)
        generalize xs.getD k zTP = X at *
        generalize ys.getD k zTP = Y at *
        have HC : Hid (∀ W, Below w.heap.size w W → Calls Try.prog 11 #[.agg #[.int .u8 (X.t.kind : Int), .string X.t.name, .slice X.fa X.t.fields.length X.fc, .int .i64 X.t.elem, .int .i64 X.t.len], .agg #[.int .u8 (Y.t.kind : Int), .string Y.t.name, .slice Y.fa Y.t.fields.length Y.fc, .int .i64 Y.t.elem, .int .i64 Y.t.len]] W fun e w' => e = .returned (.bool b') ∧ Below W.heap.size W w') := fun W q => ity_in (hXi.below q) (hYi.below q) b' hb'
        subst ha1 ha2
        have d0 : wr.cell? ⟨b1, o1 + k * 5, none⟩ = some (.int .u8 (X.t.kind : Int)) := g1 0 (by omega)
        have d1 : wr.cell? ⟨b1, o1 + k * 5 + 1, none⟩ = some (.string X.t.name) := g1 1 (by omega)
        have d2 : wr.cell? ⟨b1, o1 + k * 5 + 2, none⟩ = some (.slice X.fa X.t.fields.length X.fc) := g1 2 (by omega)
        have d3 : wr.cell? ⟨b1, o1 + k * 5 + 3, none⟩ = some (.int .i64 X.t.elem) := g1 3 (by omega)
        have d4 : wr.cell? ⟨b1, o1 + k * 5 + 4, none⟩ = some (.int .i64 X.t.len) := g1 4 (by omega)
        have f0 : wr.cell? ⟨b2, o2 + k * 5, none⟩ = some (.int .u8 (Y.t.kind : Int)) := g2 0 (by omega)
        have f1 : wr.cell? ⟨b2, o2 + k * 5 + 1, none⟩ = some (.string Y.t.name) := g2 1 (by omega)
        have f2 : wr.cell? ⟨b2, o2 + k * 5 + 2, none⟩ = some (.slice Y.fa Y.t.fields.length Y.fc) := g2 2 (by omega)
        have f3 : wr.cell? ⟨b2, o2 + k * 5 + 3, none⟩ = some (.int .i64 Y.t.elem) := g2 3 (by omega)
        have f4 : wr.cell? ⟨b2, o2 + k * 5 + 4, none⟩ = some (.int .i64 Y.t.len) := g2 4 (by omega)
        clear g1 g2 hXi hYi hb' hpre H1 H2 HX HY
        generalize (X.t.kind : Int) = pK at *
        generalize X.t.name = ps at *
        generalize X.fa = pa at *
        generalize X.t.fields.length = pn at *
        generalize X.fc = pc at *
        generalize X.t.elem = pE at *
        generalize X.t.len = pL at *
        generalize (Y.t.kind : Int) = qK at *
        generalize Y.t.name = qs at *
        generalize Y.fa = qa at *
        generalize Y.t.fields.length = qn at *
        generalize Y.fc = qc at *
        generalize Y.t.elem = qE at *
        generalize Y.t.len = qL at *
        have hlt2 : (k : Int) < (n : Int) := by omega
        have hk0 : (0 : Int) ≤ (k : Int) := by omega
        have oX := (Own.new wr #[.int .u8 pK, .string ps, .slice pa pn pc, .int .i64 pE, .int .i64 pL] 33).alloc (.cells #[.int .u8 qK, .string qs, .slice qa qn qc, .int .i64 qE, .int .i64 qL] 33)
        have oY := Own.new (wr.alloc (.cells #[.int .u8 pK, .string ps, .slice pa pn pc, .int .i64 pE, .int .i64 pL] 33)) #[.int .u8 qK, .string qs, .slice qa qn qc, .int .i64 qE, .int .i64 qL] 33
        rw [World.size_alloc] at oY
        have hbel2 := (hbel.alloc hbel.size (.cells #[.int .u8 pK, .string ps, .slice pa pn pc, .int .i64 pE, .int .i64 pL] 33)).alloc (by have := hbel.size; simp; omega) (.cells #[.int .u8 qK, .string qs, .slice qa qn qc, .int .i64 qE, .int .i64 qL] 33)
        have m0 := (Below.cell (p := ⟨b2, o2 + k * 5, none⟩) (new_below wr (.cells #[.int .u8 pK, .string ps, .slice pa pn pc, .int .i64 pE, .int .i64 pL] 33)) (World.block_lt_of_cell? wr _ f0)).trans f0
        have m1 := (Below.cell (p := ⟨b2, o2 + k * 5 + 1, none⟩) (new_below wr (.cells #[.int .u8 pK, .string ps, .slice pa pn pc, .int .i64 pE, .int .i64 pL] 33)) (World.block_lt_of_cell? wr _ f1)).trans f1
        have m2 := (Below.cell (p := ⟨b2, o2 + k * 5 + 2, none⟩) (new_below wr (.cells #[.int .u8 pK, .string ps, .slice pa pn pc, .int .i64 pE, .int .i64 pL] 33)) (World.block_lt_of_cell? wr _ f2)).trans f2
        have m3 := (Below.cell (p := ⟨b2, o2 + k * 5 + 3, none⟩) (new_below wr (.cells #[.int .u8 pK, .string ps, .slice pa pn pc, .int .i64 pE, .int .i64 pL] 33)) (World.block_lt_of_cell? wr _ f3)).trans f3
        have m4 := (Below.cell (p := ⟨b2, o2 + k * 5 + 4, none⟩) (new_below wr (.cells #[.int .u8 pK, .string ps, .slice pa pn pc, .int .i64 pE, .int .i64 pL] 33)) (World.block_lt_of_cell? wr _ f4)).trans f4
        go_upto_region 7 with fail
        generalize (wr.alloc (.cells #[.int .u8 pK, .string ps, .slice pa pn pc, .int .i64 pE, .int .i64 pL] 33)).alloc (.cells #[.int .u8 qK, .string qs, .slice qa qn qc, .int .i64 qE, .int .i64 qL] 33) = w3 at *
        obtain ⟨x0, x1, x2, x3, x4, xf⟩ := own5 oX
        obtain ⟨y0, y1, y2, y3, y4, yf⟩ := own5 oY
        clear d0 d1 d2 d3 d4 f0 f1 f2 f3 f4 m0 m1 m2 m3 m4
        go_wp2_with fail
        refine Calls.mono (HC.out w3 hbel2) ?_
        rintro e w4 ⟨rfl, b4⟩
        replace hbel2 := hbel2.trans (b4.mono hbel2.size)
        clear b4
        cases b' with
        | true =>
          have HP2 : Hid (∀ j, j < k + 1 → (xs.getD j zTP).t = (ys.getD j zTP).t) := HP.out rfl
          clear HP HF HC
          go_wp2
          go_roundw
          case rel => exact ⟨k + 1, hlt, by go_num, hbel2, HP2.out⟩
          case measure => simp [intOf]; omega
        | false =>
          obtain rfl : b = false := HF.out rfl
          clear HP HF HC
          go_wp2
          go_ret
          exact ⟨rfl, hbel2⟩
      · obtain rfl : k = n := by omega
        obtain rfl : b = true := HB.out.2 (list_eq_map zTP (by rw [← HN.out, ← HN'.out]) (fun j hj => hpre j (by rw [HN.out]; exact hj)))
        go_wp2
        go_ret
        exact ⟨rfl, hbel⟩
  · obtain rfl : b = false := iff_false hb (fun q => hne (by rw [hn, hn', ← List.length_map (f := TyP.t), q, List.length_map]))
    have hq : ((n : Int) == (n' : Int)) = false := by rw [beq_eq_false_iff_ne]; omega
    clear h h' hb hn hn' hm hx hy
    generalize (n : Int) = N at *
    generalize (n' : Int) = N' at *
    go_enter Try.func10, Try.ntmps10
    go_wp2
    go_ret
    exact ⟨rfl, Below.refl _ _⟩
set_option maxHeartbeats 4000000 in
set_option maxRecDepth 100000 in
theorem eqfRo_as {w : World} {a a' : Option Addr} {n n' c c' : Nat} {xs ys : List RoP} (hn : n = xs.length) (hn' : n' = ys.length) (h : RowAt w a 6 xs.length (roF xs)) (h' : RowAt w a' 6 ys.length (roF ys)) (hx : ∀ x ∈ xs, RoIn w x) (hy : ∀ y ∈ ys, RoIn w y) (hm : n ≤ big) (b : Bool) (hb : b = true ↔ xs.map RoP.r = ys.map RoP.r) :
    Calls Try.prog 13 #[.slice a n c, .slice a' n' c', .func (.func 14) #[] #[]] w fun e w' => e = .returned (.bool b) ∧ Below w.heap.size w w' := by
  by_cases hne : n = n'
  · subst hne
    have HN : Hid (n = xs.length) := hn
    have HN' : Hid (n = ys.length) := hn'
    have H1 : Hid (RowAt w a 6 xs.length (roF xs)) := h
    have H2 : Hid (RowAt w a' 6 ys.length (roF ys)) := h'
    have HX : Hid (∀ x ∈ xs, RoIn w x) := hx
    have HY : Hid (∀ x ∈ ys, RoIn w x) := hy
    have HB : Hid (b = true ↔ xs.map RoP.r = ys.map RoP.r) := hb
    have hm : n ≤ 140737488355328 := hm
    clear hn hn' h h' hb hx hy
    go_enter Try.func13, Try.ntmps13
    go_wp2_with fail
    go_loopw [17] (fun i wr => ∃ k : Nat, k ≤ n ∧ i = .int .i64 (k : Int) ∧ Below w.heap.size w wr ∧ ∀ j, j < k → (xs.getD j zRP).r = (ys.getD j zRP).r) (fun i _ => n - (intOf i).toNat)
    case atStart => exact ⟨0, Nat.zero_le _, rfl, Below.refl _ _, fun j hj => by omega⟩
    case round =>
      obtain ⟨k, hk, rfl, hbel, hpre⟩ := hrel
      by_cases hlt : k < n
      · have hkx : k < xs.length := by rw [← HN.out]; exact hlt
        have hky : k < ys.length := by rw [← HN'.out]; exact hlt
        obtain ⟨b1, o1, ha1, g1⟩ := (H1.out.below hbel).at hkx
        obtain ⟨b2, o2, ha2, g2⟩ := (H2.out.below hbel).at hky
        have hXi := HX.out _ (getD_in (z := zRP) hkx)
        have hYi := HY.out _ (getD_in (z := zRP) hky)
        unfold roF at g1 g2
        obtain ⟨b', hb'⟩ := some_bool ((xs.getD k zRP).r = (ys.getD k zRP).r)
        have HP : Hid (b' = true → ∀ j, j < k + 1 → (xs.getD j zRP).r = (ys.getD j zRP).r) := fun q0 j hj => by
          by_cases q : j = k
          · subst q; exact hb'.1 q0
          · exact hpre j (by omega)
        have HF : Hid (b' = false → b = false) := fun q0 => iff_false HB.out (fun q => by
          have := hb'.2 (getD_of_map zRP q k)
          rw [q0] at this; cases this)
        generalize xs.getD k zRP = X at *
        generalize ys.getD k zRP = Y at *
        have HC : Hid (∀ W, Below w.heap.size w W → Calls Try.prog 14 #[.agg #[.string X.r.name, .slice X.pa X.r.params.length X.pc, .slice X.ra X.r.results.length X.rc, .int .i64 X.r.locals, .int .i64 X.r.stack, .slice X.ca X.r.code.length X.cc], .agg #[.string Y.r.name, .slice Y.pa Y.r.params.length Y.pc, .slice Y.ra Y.r.results.length Y.rc, .int .i64 Y.r.locals, .int .i64 Y.r.stack, .slice Y.ca Y.r.code.length Y.cc]] W fun e w' => e = .returned (.bool b') ∧ Below W.heap.size W w') := fun W q => iro_in (hXi.below q) (hYi.below q) b' hb'
        subst ha1 ha2
        have d0 : wr.cell? ⟨b1, o1 + k * 6, none⟩ = some (.string X.r.name) := g1 0 (by omega)
        have d1 : wr.cell? ⟨b1, o1 + k * 6 + 1, none⟩ = some (.slice X.pa X.r.params.length X.pc) := g1 1 (by omega)
        have d2 : wr.cell? ⟨b1, o1 + k * 6 + 2, none⟩ = some (.slice X.ra X.r.results.length X.rc) := g1 2 (by omega)
        have d3 : wr.cell? ⟨b1, o1 + k * 6 + 3, none⟩ = some (.int .i64 X.r.locals) := g1 3 (by omega)
        have d4 : wr.cell? ⟨b1, o1 + k * 6 + 4, none⟩ = some (.int .i64 X.r.stack) := g1 4 (by omega)
        have d5 : wr.cell? ⟨b1, o1 + k * 6 + 5, none⟩ = some (.slice X.ca X.r.code.length X.cc) := g1 5 (by omega)
        have f0 : wr.cell? ⟨b2, o2 + k * 6, none⟩ = some (.string Y.r.name) := g2 0 (by omega)
        have f1 : wr.cell? ⟨b2, o2 + k * 6 + 1, none⟩ = some (.slice Y.pa Y.r.params.length Y.pc) := g2 1 (by omega)
        have f2 : wr.cell? ⟨b2, o2 + k * 6 + 2, none⟩ = some (.slice Y.ra Y.r.results.length Y.rc) := g2 2 (by omega)
        have f3 : wr.cell? ⟨b2, o2 + k * 6 + 3, none⟩ = some (.int .i64 Y.r.locals) := g2 3 (by omega)
        have f4 : wr.cell? ⟨b2, o2 + k * 6 + 4, none⟩ = some (.int .i64 Y.r.stack) := g2 4 (by omega)
        have f5 : wr.cell? ⟨b2, o2 + k * 6 + 5, none⟩ = some (.slice Y.ca Y.r.code.length Y.cc) := g2 5 (by omega)
        clear g1 g2 hXi hYi hb' hpre H1 H2 HX HY
        generalize X.r.name = ps at *
        generalize X.pa = pa at *
        generalize X.r.params.length = pn at *
        generalize X.pc = pc at *
        generalize X.ra = pA at *
        generalize X.r.results.length = pN at *
        generalize X.rc = pC at *
        generalize X.r.locals = pL at *
        generalize X.r.stack = pS at *
        generalize X.ca = pd at *
        generalize X.r.code.length = pM at *
        generalize X.cc = pD at *
        generalize Y.r.name = qs at *
        generalize Y.pa = qa at *
        generalize Y.r.params.length = qn at *
        generalize Y.pc = qc at *
        generalize Y.ra = qA at *
        generalize Y.r.results.length = qN at *
        generalize Y.rc = qC at *
        generalize Y.r.locals = qL at *
        generalize Y.r.stack = qS at *
        generalize Y.ca = qd at *
        generalize Y.r.code.length = qM at *
        generalize Y.cc = qD at *
        have hlt2 : (k : Int) < (n : Int) := by omega
        have hk0 : (0 : Int) ≤ (k : Int) := by omega
        have oX := (Own.new wr #[.string ps, .slice pa pn pc, .slice pA pN pC, .int .i64 pL, .int .i64 pS, .slice pd pM pD] 39).alloc (.cells #[.string qs, .slice qa qn qc, .slice qA qN qC, .int .i64 qL, .int .i64 qS, .slice qd qM qD] 39)
        have oY := Own.new (wr.alloc (.cells #[.string ps, .slice pa pn pc, .slice pA pN pC, .int .i64 pL, .int .i64 pS, .slice pd pM pD] 39)) #[.string qs, .slice qa qn qc, .slice qA qN qC, .int .i64 qL, .int .i64 qS, .slice qd qM qD] 39
        rw [World.size_alloc] at oY
        have hbel2 := (hbel.alloc hbel.size (.cells #[.string ps, .slice pa pn pc, .slice pA pN pC, .int .i64 pL, .int .i64 pS, .slice pd pM pD] 39)).alloc (by have := hbel.size; simp; omega) (.cells #[.string qs, .slice qa qn qc, .slice qA qN qC, .int .i64 qL, .int .i64 qS, .slice qd qM qD] 39)
        have m0 := (Below.cell (p := ⟨b2, o2 + k * 6, none⟩) (new_below wr (.cells #[.string ps, .slice pa pn pc, .slice pA pN pC, .int .i64 pL, .int .i64 pS, .slice pd pM pD] 39)) (World.block_lt_of_cell? wr _ f0)).trans f0
        have m1 := (Below.cell (p := ⟨b2, o2 + k * 6 + 1, none⟩) (new_below wr (.cells #[.string ps, .slice pa pn pc, .slice pA pN pC, .int .i64 pL, .int .i64 pS, .slice pd pM pD] 39)) (World.block_lt_of_cell? wr _ f1)).trans f1
        have m2 := (Below.cell (p := ⟨b2, o2 + k * 6 + 2, none⟩) (new_below wr (.cells #[.string ps, .slice pa pn pc, .slice pA pN pC, .int .i64 pL, .int .i64 pS, .slice pd pM pD] 39)) (World.block_lt_of_cell? wr _ f2)).trans f2
        have m3 := (Below.cell (p := ⟨b2, o2 + k * 6 + 3, none⟩) (new_below wr (.cells #[.string ps, .slice pa pn pc, .slice pA pN pC, .int .i64 pL, .int .i64 pS, .slice pd pM pD] 39)) (World.block_lt_of_cell? wr _ f3)).trans f3
        have m4 := (Below.cell (p := ⟨b2, o2 + k * 6 + 4, none⟩) (new_below wr (.cells #[.string ps, .slice pa pn pc, .slice pA pN pC, .int .i64 pL, .int .i64 pS, .slice pd pM pD] 39)) (World.block_lt_of_cell? wr _ f4)).trans f4
        have m5 := (Below.cell (p := ⟨b2, o2 + k * 6 + 5, none⟩) (new_below wr (.cells #[.string ps, .slice pa pn pc, .slice pA pN pC, .int .i64 pL, .int .i64 pS, .slice pd pM pD] 39)) (World.block_lt_of_cell? wr _ f5)).trans f5
        go_upto_region 7 with fail
        generalize (wr.alloc (.cells #[.string ps, .slice pa pn pc, .slice pA pN pC, .int .i64 pL, .int .i64 pS, .slice pd pM pD] 39)).alloc (.cells #[.string qs, .slice qa qn qc, .slice qA qN qC, .int .i64 qL, .int .i64 qS, .slice qd qM qD] 39) = w3 at *
        obtain ⟨x0, x1, x2, x3, x4, x5, xf⟩ := own6 oX
        obtain ⟨y0, y1, y2, y3, y4, y5, yf⟩ := own6 oY
        clear d0 d1 d2 d3 d4 d5 f0 f1 f2 f3 f4 f5 m0 m1 m2 m3 m4 m5
        go_wp2_with fail
        refine Calls.mono (HC.out w3 hbel2) ?_
        rintro e w4 ⟨rfl, b4⟩
        replace hbel2 := hbel2.trans (b4.mono hbel2.size)
        clear b4
        cases b' with
        | true =>
          have HP2 : Hid (∀ j, j < k + 1 → (xs.getD j zRP).r = (ys.getD j zRP).r) := HP.out rfl
          clear HP HF HC
          go_wp2
          go_roundw
          case rel => exact ⟨k + 1, hlt, by go_num, hbel2, HP2.out⟩
          case measure => simp [intOf]; omega
        | false =>
          obtain rfl : b = false := HF.out rfl
          clear HP HF HC
          go_wp2
          go_ret
          exact ⟨rfl, hbel2⟩
      · obtain rfl : k = n := by omega
        obtain rfl : b = true := HB.out.2 (list_eq_map zRP (by rw [← HN.out, ← HN'.out]) (fun j hj => hpre j (by rw [HN.out]; exact hj)))
        go_wp2
        go_ret
        exact ⟨rfl, hbel⟩
  · obtain rfl : b = false := iff_false hb (fun q => hne (by rw [hn, hn', ← List.length_map (f := RoP.r), q, List.length_map]))
    have hq : ((n : Int) == (n' : Int)) = false := by rw [beq_eq_false_iff_ne]; omega
    clear h h' hb hn hn' hm hx hy
    generalize (n : Int) = N at *
    generalize (n' : Int) = N' at *
    go_enter Try.func13, Try.ntmps13
    go_wp2
    go_ret
    exact ⟨rfl, Below.refl _ _⟩
set_option maxHeartbeats 4000000 in
set_option maxRecDepth 100000 in
theorem iSame_as {w : World} {A B : MoP} (hA : MoIn w A) (hB : MoIn w B) (b : Bool) (hb : b = true ↔ A.mo = B.mo) :
    Calls Try.prog 6 #[.agg A.cs, .agg B.cs] w fun e w' => e = .returned (.bool b) ∧ Below w.heap.size w w' := by
  have o1 := (Own.new w A.cs 26).alloc (.cells B.cs 26)
  have o2 := Own.new (w.alloc (.cells A.cs 26)) B.cs 26
  rw [World.size_alloc] at o2
  have hb0 : Below w.heap.size w ((w.alloc (.cells A.cs 26)).alloc (.cells B.cs 26)) := (new_below _ _).alloc (by simp) _
  obtain ⟨b1, hb1⟩ := some_bool (A.tys.map TyP.t = B.tys.map TyP.t)
  obtain ⟨b2, hb2⟩ := some_bool (A.txs = B.txs)
  obtain ⟨b3, hb3⟩ := some_bool (A.fns.map RoP.r = B.fns.map RoP.r)
  have C1 : Hid (∀ W, Below w.heap.size w W → Calls Try.prog 10 #[.slice A.ta A.tys.length A.tc, .slice B.ta B.tys.length B.tc, .func (.func 11) #[] #[]] W fun e w' => e = .returned (.bool b1) ∧ Below W.heap.size W w') := fun W q => eqfTy_as rfl rfl (hA.tyr.below q) (hB.tyr.below q) (fun x hx => (hA.ty x hx).below q) (fun x hx => (hB.ty x hx).below q) hA.tmx b1 hb1
  have C2 : Hid (∀ W, Below w.heap.size w W → Calls Try.prog 12 #[.slice A.sa A.txs.length A.sc, .slice B.sa B.txs.length B.sc] W fun e w' => e = .returned (.bool b2) ∧ Below W.heap.size W w') := fun W q => eqStrs_as rfl rfl (hA.txr.below q) (hB.txr.below q) hA.smx b2 hb2
  have C3 : Hid (∀ W, Below w.heap.size w W → Calls Try.prog 13 #[.slice A.fa A.fns.length A.fc, .slice B.fa B.fns.length B.fc, .func (.func 14) #[] #[]] W fun e w' => e = .returned (.bool b3) ∧ Below W.heap.size W w') := fun W q => eqfRo_as rfl rfl (hA.fnr.below q) (hB.fnr.below q) (fun x hx => (hA.fn x hx).below q) (fun x hx => (hB.fn x hx).below q) hA.fmx b3 hb3
  have HB : Hid (b = true ↔ b1 = true ∧ b2 = true ∧ b3 = true) := hb.trans (by rw [hb1, hb2, hb3]; unfold MoP.mo; simp only [Mo.mk.injEq])
  clear hA hB hb hb1 hb2 hb3
  unfold MoP.cs at *
  generalize A.tys.length = n1 at *
  generalize A.txs.length = n2 at *
  generalize A.fns.length = n3 at *
  generalize B.tys.length = m1 at *
  generalize B.txs.length = m2 at *
  generalize B.fns.length = m3 at *
  generalize A.ta = at1 at *
  generalize A.sa = as1 at *
  generalize A.fa = af1 at *
  generalize B.ta = bt1 at *
  generalize B.sa = bs1 at *
  generalize B.fa = bf1 at *
  generalize A.tc = ac1 at *
  generalize A.sc = ac2 at *
  generalize A.fc = ac3 at *
  generalize B.tc = bc1 at *
  generalize B.sc = bc2 at *
  generalize B.fc = bc3 at *
  go_enter Try.func6, Try.ntmps6
  go_upto_region 1 with fail
  generalize (w.alloc (.cells #[.slice at1 n1 ac1, .slice as1 n2 ac2, .slice af1 n3 ac3] 26)).alloc (.cells #[.slice bt1 m1 bc1, .slice bs1 m2 bc2, .slice bf1 m3 bc3] 26) = w2 at *
  obtain ⟨x0, x1, x2, xf⟩ := own3 o1
  obtain ⟨y0, y1, y2, yf⟩ := own3 o2
  go_wp2_with fail
  refine Calls.mono (C1.out w2 hb0) ?_
  rintro e w3 ⟨rfl, b3'⟩
  clear x0 x1 x2 xf y0 y1 y2 yf
  replace hb0 := hb0.trans (b3'.mono hb0.size)
  replace o1 := o1.below b3'
  replace o2 := o2.below b3'
  obtain ⟨x0, x1, x2, xf⟩ := own3 o1
  obtain ⟨y0, y1, y2, yf⟩ := own3 o2
  cases b1 with
  | false =>
    obtain rfl : b = false := iff_false HB.out (fun q => by simp at q)
    clear HB C1 C2 C3 o1 o2
    go_wp2
    go_ret
    exact ⟨rfl, hb0⟩
  | true =>
    go_wp2_with fail
    refine Calls.mono (C2.out w3 hb0) ?_
    rintro e w4 ⟨rfl, b4'⟩
    clear x0 x1 x2 xf y0 y1 y2 yf
    replace hb0 := hb0.trans (b4'.mono hb0.size)
    replace o1 := o1.below b4'
    replace o2 := o2.below b4'
    obtain ⟨x0, x1, x2, xf⟩ := own3 o1
    obtain ⟨y0, y1, y2, yf⟩ := own3 o2
    cases b2 with
    | false =>
      obtain rfl : b = false := iff_false HB.out (fun q => by simp at q)
      clear HB C1 C2 C3 o1 o2
      go_wp2
      go_ret
      exact ⟨rfl, hb0⟩
    | true =>
      obtain rfl : b = b3 := Bool.eq_iff_iff.2 ⟨fun q => (HB.out.1 q).2.2, fun q => HB.out.2 (by simp [q])⟩
      clear HB
      go_wp2_with fail
      refine Calls.mono (C3.out w4 hb0) ?_
      rintro e w5 ⟨rfl, b5'⟩
      replace hb0 := hb0.trans (b5'.mono hb0.size)
      cases b <;> (go_wp2; go_ret; exact ⟨rfl, hb0⟩)
end Go.Proofs.Ytghkanagiobggaa
