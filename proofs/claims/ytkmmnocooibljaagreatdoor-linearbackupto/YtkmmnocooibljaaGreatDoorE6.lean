/-
  Closed runs reckoned by the kernel, part 6: maps, texts, rows; the executor is sound.
-/
import Derived.Test.YtkmmnocooibljaaGreatDoorE5
import Derived.Laws.BytesString
set_option linter.all false

namespace Go.Eng
open Go.RowKit

variable {P : Program} {G N : Nat}

theorem elemSize_inv {t : TypeId} {sz : Nat} (h : elemSize P t = some sz) : ∃ el inf, P.underlying t = some (.slice el) ∧ P.info? el = some inf ∧ inf.size = sz := by
  unfold elemSize at h
  split at h
  · rename_i el hu
    simp only [Option.map_eq_some_iff] at h
    obtain ⟨inf, h1, h2⟩ := h
    exact ⟨el, inf, hu, h1, h2⟩
  · cases h

theorem firstA_run {r : PM} {H : AH} {w : World} (hrel : Rel P G N r H w) {size n : Nat} {x x' : Value} (hv : VR r x x') {vs : List Value} (h : firstA size n x H = some vs) :
    ∃ vs' : List Value, (Builtin.firstCells size n x').run P w = .ok ⟨vs'⟩ w ∧ VL r vs vs' ∧ (n = 0 → vs = []) := by
  unfold firstA at h
  split at h
  · rename_i b l c
    split at h
    · cases h
    · rename_i hc
      cases x' <;> try (simp only [VR] at hv; done)
      rename_i b' l' c'
      cases b' <;> simp only [VR] at hv
      rename_i b'
      obtain ⟨rfl, hv⟩ := hv
      obtain ⟨l2, g1, g2⟩ := cells_run (P := P) (b := b') hrel h fun h0 => by
        have hn : n ≠ 0 := fun h1 => h0 (by rw [h1, Nat.zero_mul])
        rcases hv with ⟨h1, _⟩ | ⟨s, q, g1, g2, g3, g4, _⟩
        · exact absurd ⟨hn, h1⟩ hc
        · exact ⟨s, q, g1, g2, g3, g4⟩
      refine ⟨l2, g1 w.drawn, g2, fun h0 => ?_⟩
      subst h0
      have := cellsFrom_len h
      rw [Nat.zero_mul] at this
      exact List.length_eq_zero_iff.1 this
  · simp only [Option.some.injEq] at h
    subst h
    rw [flat_eq (r := r) rfl hv]
    exact ⟨[], rfl, VL.nil r, fun _ => rfl⟩
  · rename_i s
    simp only [Option.some.injEq] at h
    subst h
    rw [hv.string_inv]
    refine ⟨bytesOf ⟨(s.data.toList.take n).toArray⟩, ?_, flat_list r (flat_bytes _), fun h0 => by subst h0; rfl⟩
    show Result.ok _ w = _
    congr 1
    rw [← Array.toList_inj]
    simp [bytesOf]
  · cases h

theorem copyA_sound {r : PM} {H H' : AH} {w : World} (hrel : Rel P G N r H w) {dt ty : TypeId} {ats : Array TypeId} (hat : ats[0]? = some dt) {d x d' x' v : Value} (hd : VR r d d') (hx : VR r x x') (h : copyA P dt d x H = some (v, H')) :
    ValT P G N r H w v H' (Builtin.copy_ ats ty #[d', x']) := by
  unfold copyA at h
  split at h
  · rename_i size base dl dc hes
    obtain ⟨el, inf, hu, hinf, rfl⟩ := elemSize_inv hes
    split at h
    · rename_i sl hsl
      have hlen : (Builtin.lenOf x').run P w = .ok sl w := by
        split at hsl
        · obtain ⟨b, c', e1, _⟩ := hx.slice_inv
          simp only [Option.some.injEq] at hsl
          subst hsl
          rw [e1]
          rfl
        · simp only [Option.some.injEq] at hsl
          subst hsl
          rw [hx.string_inv]
          rfl
        · cases hsl
      split at h
      · rename_i vs hvs
        obtain ⟨vs', f1, f2, f3⟩ := firstA_run (P := P) hrel hx hvs
        -- the run of a copy
        have run : ∀ (base' : Option Addr) (dc' : Nat) (w2 : World), d' = .slice base' dl dc' → (∀ a, base' = some a → (storeCells a vs').run P w = .ok () w2) → (base' = none → w2 = w) →
            (Builtin.copy_ ats ty #[d', x']).run P w = .ok (.int .i64 (.ofNat (Nat.min sl dl))) w2 := by
          intro base' dc' w2 hd' h1 h2
          subst hd'
          unfold Builtin.copy_
          simp only [hat, List.getElem?_toArray, List.getElem?_cons_zero, List.getElem?_cons_succ]
          rw [run_b (underlying_run hu w)]
          simp only
          rw [run_b hlen, run_b (sizeOf_run hinf w), run_b f1]
          cases base' with
          | none => rw [h2 rfl]; rfl
          | some a =>
            show ((storeCells a vs') >>= _).run P w = _
            rw [run_b (h1 a rfl)]
            rfl
        split at h
        · rename_i a
          cases d' <;> try (simp only [VR] at hd; done)
          rename_i b dl' dc'
          cases b <;> simp only [VR] at hd
          rename_i b
          obtain ⟨rfl, hd⟩ := hd
          split at h
          · cases h
          · rename_i hc
            split at h
            · rename_i H1 hst
              simp only [Option.some.injEq, Prod.mk.injEq] at h
              obtain ⟨rfl, rfl⟩ := h
              by_cases hv0 : vs = []
              · subst hv0
                cases vs' with
                | cons _ _ => simp [VL, VR.go] at f2
                | nil =>
                  simp only [storeAll, Option.some.injEq] at hst
                  subst hst
                  exact ⟨r, _, w, run _ _ w rfl (fun a _ => rfl) (fun h0 => by cases h0), flat_refl r _ rfl, .refl hrel⟩
              · have har : AR r a b := by
                  rcases hd with ⟨h1, _⟩ | ⟨s, q, g1, g2, g3, g4, _⟩
                  · have hdl : dl' ≠ 0 := fun h0 => hv0 (f3 (by subst h0; exact Nat.min_zero _))
                    exact absurd ⟨hdl, h1⟩ hc
                  · exact ⟨s, q, g1, g2, g3, g4⟩
                obtain ⟨H2, j1, j2⟩ := ar_storeCells (P := P) hrel.bound hst
                obtain ⟨s2, u, w2, m1, _, m3⟩ := (TR.storeCells r _ _ 0 har f2).sr G N H w () H2 hrel j1
                exact ⟨s2, _, w2, run _ _ w2 rfl (fun a' ha => by simp only [Option.some.injEq] at ha; subst ha; exact m1) (fun h0 => by cases h0), flat_refl s2 _ rfl, j2.symm.ex m3⟩
            · cases h
        · simp only [Option.some.injEq, Prod.mk.injEq] at h
          obtain ⟨rfl, rfl⟩ := h
          exact ⟨r, _, w, run _ _ w (flat_eq (r := r) rfl hd) (fun a ha => by cases ha) (fun _ => rfl), flat_refl r _ rfl, .refl hrel⟩
      · cases h
    · cases h
  · cases h

theorem clearA_sound {r : PM} {H H' : AH} {w : World} (hrel : Rel P G N r H w) {t ty : TypeId} {x x' v : Value} (hx : VR r x x') (h : clearA P t x H = some (v, H')) :
    ValT P G N r H w v H' (Builtin.clear_ #[t] ty #[x']) := by
  have some_inv : (P.underlying t).isSome = true → ∃ d, P.underlying t = some d := fun h => Option.isSome_iff_exists.1 h
  unfold clearA at h
  split at h
  · cases hu : (P.underlying t).isSome with
    | false => rw [hu, ifb_false] at h; cases h
    | true =>
      rw [hu, ifb_true] at h
      simp only [Option.some.injEq, Prod.mk.injEq] at h
      obtain ⟨rfl, rfl⟩ := h
      obtain ⟨d, hu⟩ := some_inv hu
      rw [flat_eq (r := r) rfl hx]
      refine ⟨r, .tuple #[], w, ?_, flat_refl r _ rfl, .refl hrel⟩
      unfold Builtin.clear_
      simp only [List.getElem?_toArray, List.getElem?_cons_zero]
      rw [run_b (underlying_run hu w)]
      cases d <;> rfl
  · rename_i a n c
    split at h
    · rename_i hn
      subst hn
      cases hu : (P.underlying t).isSome with
      | false => rw [hu, ifb_false] at h; cases h
      | true =>
        rw [hu, ifb_true] at h
        simp only [Option.some.injEq, Prod.mk.injEq] at h
        obtain ⟨rfl, rfl⟩ := h
        obtain ⟨d, hu⟩ := some_inv hu
        obtain ⟨b, c', e1, _⟩ := hx.slice_inv
        rw [e1]
        refine ⟨r, .tuple #[], w, ?_, flat_refl r _ rfl, .refl hrel⟩
        unfold Builtin.clear_
        simp only [List.getElem?_toArray, List.getElem?_cons_zero]
        rw [run_b (underlying_run hu w)]
        cases d <;> cases b <;> rfl
    · rename_i hn
      split at h
      · cases h
      · rename_i hc
        split at h
        · rename_i el hu
          cases hz : zf P el with
          | false => rw [hz, ifb_false] at h; cases h
          | true =>
            rw [hz, ifb_true] at h
            split at h
            · rename_i z hzo
              split at h
              · rename_i H1 hst
                simp only [Option.some.injEq, Prod.mk.injEq] at h
                obtain ⟨rfl, rfl⟩ := h
                obtain ⟨b, s, q, e1, e2, e3, e4, e5⟩ := hx.slice_some (by omega)
                have hvl : VL r (Builtin.zeroCells z.cells n).toList (Builtin.zeroCells z.cells n).toList := rep_rel (zf_zero hz hzo) (n * z.cells.size)
                obtain ⟨H2, j1, j2⟩ := ar_storeCells (P := P) hrel.bound hst
                obtain ⟨s2, u, w2, m1, _, m3⟩ := (TR.storeCells r _ _ 0 (⟨s, q, e2, e3, e4, e5⟩ : AR r a b) hvl).sr G N H w () H2 hrel j1
                refine ⟨s2, .tuple #[], w2, ?_, flat_refl s2 _ rfl, j2.symm.ex m3⟩
                rw [e1]
                unfold Builtin.clear_
                simp only [List.getElem?_toArray, List.getElem?_cons_zero]
                rw [run_b (underlying_run hu w)]
                cases n with
                | zero => exact absurd rfl hn
                | succ n =>
                  show ((zeroValue el) >>= fun z => (storeCells b (Builtin.zeroCells z.cells (n + 1)).toList >>= fun _ => pure (Value.tuple #[]))).run P w = _
                  rw [run_b (zero_run hzo w), run_b m1]
                  rfl
              · cases h
            · cases h
        · cases h
  · cases h

/-! ### Strings and bytes -/

theorem byteList_spec : ∀ {l : List Value} {bs : List UInt8}, byteList l = some bs → l.length = bs.length ∧ ∀ (k : Nat) (v : Value), l[k]? = some v → ∃ n : Int, v = Value.int .u8 n ∧ bs[k]? = some n.toNat.toUInt8
  | [], bs, h => by simp only [byteList, Option.some.injEq] at h; subst h; exact ⟨rfl, fun k v hk => by simp at hk⟩
  | a :: l, bs, h => by
    unfold byteList at h
    split at h
    · rename_i heq; cases heq
    · rename_i n l' heq
      simp only [List.cons.injEq] at heq
      obtain ⟨rfl, rfl⟩ := heq
      split at h
      · rename_i m hm
        simp only [Option.some.injEq] at h
        subst h
        obtain ⟨h1, h2⟩ := byteList_spec hm
        refine ⟨by simp [h1], fun k v hk => ?_⟩
        cases k with
        | zero => simp only [List.getElem?_cons_zero, Option.some.injEq] at hk; exact ⟨n, hk.symm, rfl⟩
        | succ k => simp only [List.getElem?_cons_succ] at hk ⊢; exact h2 k v hk
      · cases h
    · cases h

theorem run_loadBytes {c : Array Value} {e : TypeId} {fz : Nat × Nat} {w : World} : ∀ (n : Nat) (b : Addr) (acc : ByteArray) (bs : List UInt8), b.spot = none → w.heap[b.block]? = some (.cells c e fz) → bs.length = n → (∀ k, k < n → ∃ m : Int, c[b.off + k]? = some (.int .u8 m) ∧ bs[k]? = some m.toNat.toUInt8) →
    (loadBytes b acc n).run P w = .ok ⟨⟨acc.data.toList ++ bs⟩⟩ w
  | 0, b, acc, bs, _, _, hl, _ => by
    have : bs = [] := List.length_eq_zero_iff.1 hl
    subst this
    show Result.ok acc w = _
    simp
  | n + 1, b, acc, bs, hs, hw, hl, h => by
    obtain ⟨m, h1, h2⟩ := h 0 (by omega)
    cases bs with
    | nil => simp at hl
    | cons x bs =>
      simp only [List.getElem?_cons_zero, Option.some.injEq] at h2
      subst h2
      unfold loadBytes
      show (Sem.load _ b _).run P w = _
      have hc : w.cell? b = some (.int .u8 m) := by rw [cell_eq w b hs hw]; exact h1
      simp only [Sem.run, hc]
      show (loadBytes (b.add 1) (acc.push m.toNat.toUInt8) n).run P w = _
      rw [add_spot hs]
      rw [run_loadBytes n ⟨b.block, b.off + 1, none⟩ _ bs rfl hw (by simpa using hl) fun k hk => by
        obtain ⟨m', g1, g2⟩ := h (k + 1) (by omega)
        exact ⟨m', by rw [← g1]; congr 1; show b.off + 1 + k = _; omega, by simpa using g2⟩]
      simp [ByteArray.push]

theorem lies_row {e : TypeId} {count off n : Nat} (h1 : esz P e = 1) (h2 : off + n ≤ count) : liesAt P P.depth e (count / P.cellsOf e) off e n = true := by
  have hc : P.cellsOf e = 1 := h1
  have hd : P.depth = (2 * (P.types.size + Made.depth) + 1) + 1 := rfl
  have hsame : sameLayout P P.depth e e = true := by rw [hd]; simp [sameLayout]
  have hrow : rowAt P (sameLayout P P.depth · e) P.depth e (count / 1) off n = true := by
    generalize hf : (sameLayout P P.depth · e) = f
    have hfe : f e = true := by rw [← hf]; exact hsame
    rw [hd]
    unfold rowAt
    simp only [hc]
    simp [hfe, Nat.mod_one, h2]
  rw [hc]
  generalize hf : (sameLayout P P.depth · e) = f at hrow
  rw [hd]
  unfold liesAt
  rw [hf, hrow]
  rfl

/-- What the builtin of that number does. -/
structure StrB (F : Array TypeId → TypeId → Array Value → Sem Value) : Prop where
  is : ∀ as ty cs args, builtin (Builtin.ofNat 21) as ty cs args = (do pure (Next.value (← F as ty args)))
  none : ∀ (P : Program) (w : World) (pt t2 ty : TypeId) (q : Option Addr) (k : IntKind), (F #[pt, t2] ty #[.pointer q, .int k (.ofNat 0)]).run P w = .ok (.string .empty) w
  some : ∀ (P : Program) (w : World) (pt t2 ty u : TypeId) (b : Addr) (k : IntKind) (m : Nat) (s : ByteArray), m ≠ 0 → m < 9223372036854775808 → (elemOf pt).run P w = .ok u w → (variablesAt b u m).run P w = .ok true w → (loadBytes b .empty m).run P w = .ok s w →
    (F #[pt, t2] ty #[.pointer (some b), .int k (.ofNat m)]).run P w = .ok (.string s) (w.freeze b m)
theorem strB : ∃ F, StrB F := by
  refine ⟨_, ⟨fun _ _ _ _ => rfl, fun P w pt t2 ty q k => ?_, fun P w pt t2 ty u b k m s h0 h63 hel hva hload => ?_⟩⟩
  · cases q <;> rfl
  · have hai : (asInt (.int k (.ofNat m))).run P w = .ok (.ofNat m) w := rfl
    have hneg : ¬ (Int.ofNat m < 0) := by simp only [Int.ofNat_eq_natCast]; omega
    show (asInt (Value.int k (.ofNat m)) >>= _ : Sem Value).run P w = _
    rw [run_b hai]
    show Sem.run P (if Int.ofNat m < 0 then _ else _) w = _
    rw [if_neg hneg]
    show Sem.run P (if Int.ofNat m > IntKind.i64.max then _ else _) w = _
    rw [if_neg (by show ¬ (Int.ofNat m > 9223372036854775807); simp only [Int.ofNat_eq_natCast]; omega)]
    show Sem.run P (if Int.ofNat m = 0 then _ else _) w = _
    rw [if_neg (by simp only [Int.ofNat_eq_natCast]; omega)]
    show Sem.run P (elemOf pt >>= _) w = _
    rw [run_b hel]
    rw [run_b (show (variablesAt b u (Int.ofNat m).toNat).run P w = .ok true w from hva), if_pos rfl, run_b (show (loadBytes b .empty (Int.ofNat m).toNat).run P w = .ok s w from hload)]
    rfl

theorem stringA_sound {F : Array TypeId → TypeId → Array Value → Sem Value} (hF : StrB F) {r : PM} {H H' : AH} {w : World} (hrel : Rel P G N r H w) {pt t2 ty : TypeId} {p n p' n' v : Value} (hp : VR r p p') (hn : VR r n n') (h : stringA P pt p n H = some (v, H')) :
    ValT P G N r H w v H' (F #[pt, t2] ty #[p', n']) := by
  unfold stringA at h
  split at h
  · rename_i k m
    rw [hn.int_inv]
    have nothing : m = 0 → ∀ q, (F #[pt, t2] ty #[.pointer q, .int k (.ofNat m)]).run P w = .ok (.string .empty) w := by
      rintro rfl q
      exact hF.none P w pt t2 ty q k
    split at h
    · split at h
      · rename_i hm
        simp only [Option.some.injEq, Prod.mk.injEq] at h
        obtain ⟨rfl, rfl⟩ := h
        rw [flat_eq (r := r) rfl hp]
        exact ⟨r, _, w, nothing hm none, flat_refl r _ rfl, .refl hrel⟩
      · cases h
    · rename_i a
      obtain ⟨b, e1, har⟩ := hp.pointer_inv
      rw [e1]
      split at h
      · rename_i hm
        simp only [Option.some.injEq, Prod.mk.injEq] at h
        obtain ⟨rfl, rfl⟩ := h
        exact ⟨r, _, w, nothing hm (some b), flat_refl r _ rfl, .refl hrel⟩
      · rename_i hm
        split at h
        · rename_i u c e fz vs hu hg hcf
          split at h
          · split at h
            · rename_i bs hbs
              split at h
              · rename_i hcond
                simp only [Bool.and_eq_true, beq_iff_eq, decide_eq_true_eq] at hcond
                obtain ⟨⟨⟨⟨⟨hue, hfz⟩, hsp⟩, hlo⟩, hm63⟩, hes⟩ := hcond
                subst hue
                simp only [Option.some.injEq, Prod.mk.injEq] at h
                obtain ⟨rfl, rfl⟩ := h
                obtain ⟨_, cl, e2, fz2, hg2, hle, rfl⟩ := cellsFrom_inv hm hcf
                rw [hg] at hg2
                simp only [Option.some.injEq, Obj.cells.injEq] at hg2
                obtain ⟨rfl, rfl, rfl⟩ := hg2
                obtain ⟨s, x, k1, k2, k3, k4⟩ := har
                obtain ⟨b1, s1, x1, f1, _, c', fz', g1, g2, g3, g4, g5, g6⟩ := hrel.obj _ _ hg rfl
                have f1' := f1
                rw [k1] at f1
                simp only [Option.some.injEq, Prod.mk.injEq] at f1
                obtain ⟨rfl, rfl, rfl⟩ := f1
                have hcs : (⟨cl⟩ : Array Value).size = cl.length := rfl
                rw [hcs] at g2
                obtain ⟨q1, q2⟩ := byteList_spec hbs
                have hbl : bs.length = m := by rw [← q1]; simp; omega
                have hcell : ∀ j, j < m → ∃ t : Int, c'[b.off + j]? = some (.int .u8 t) ∧ bs[j]? = some t.toNat.toUInt8 := fun j hj => by
                  have hlt : a.off + j < cl.length := by omega
                  have hget : ((cl.drop a.off).take m)[j]? = some cl[a.off + j] := by
                    rw [List.getElem?_take, if_pos hj, List.getElem?_drop, List.getElem?_eq_getElem hlt]
                  obtain ⟨t, ht1, ht2⟩ := q2 j _ hget
                  obtain ⟨v', y1, y2⟩ := g3 (a.off + j) (cl[a.off + j]) (by simp [hlt])
                  rw [ht1] at y2
                  rw [y2.int_inv] at y1
                  refine ⟨t, ?_, ht2⟩
                  rw [← y1]
                  congr 1
                  omega
                have hload := run_loadBytes (P := P) (w := w) m b .empty bs k4 g1 hbl hcell
                refine ⟨r, .string ⟨⟨bs⟩⟩, w.freeze b m, ?_, flat_refl r _ rfl, ?_⟩
                · have hel : (elemOf pt).run P w = .ok u w := by
                    unfold elemOf
                    rw [run_b (underlying_run hu w)]
                    rfl
                  have hva : (variablesAt b u m).run P w = .ok true w := by
                    unfold variablesAt
                    rw [run_b (a := P) (w1 := w) rfl]
                    have hsh : (shape b.block).run P w = .ok (some (u, c'.size)) w := by
                      show Result.ok (w.shape? b.block) w = _
                      unfold World.shape?
                      rw [g1]
                    rw [run_b hsh]
                    show Result.ok _ w = _
                    have hl : liesAt P P.depth u (c'.size / P.cellsOf u) b.off u m = true := lies_row hes (by omega)
                    rw [hl]
                  exact hF.some P w pt t2 ty u b k m _ hm hm63 hel hva hload
                · have hlt : b.block < w.heap.size := h_lt g1
                  refine Ex.put hrel hg rfl hlo f1' (by unfold World.freeze; rw [if_neg hm]; simp) (fun k hk => ?_) ?_ ?_ ?_ ?_
                  · unfold World.freeze
                    rw [if_neg hm]
                    simp only [Array.getElem?_modify]
                    rw [if_neg (fun h => hk h.symm)]
                  · have hz : (w.freeze b m).heap[b.block]? = some (.cells c' u (b.off, b.off + m)) := by
                      unfold World.freeze
                      rw [if_neg hm]
                      simp only [Array.getElem?_modify, if_true, g1, Option.map_some]
                      obtain ⟨f1, f2⟩ := fz'
                      have hff : f1 = f2 := g5 hfz
                      subst hff
                      simp
                    refine ⟨c', _, hz, by rw [hcs]; exact g2, g3, fun k h1 h2 h3 => ?_, fun h0 => ?_, fun h0 => ?_⟩
                    · unfold inFrozen at h3 ⊢
                      simp only [Bool.and_eq_true, decide_eq_true_eq] at h3 ⊢
                      omega
                    · simp only at h0; omega
                    · simp only [Prod.mk.injEq] at h0; omega
                  · unfold World.freeze; rw [if_neg hm]
                  · unfold World.freeze; rw [if_neg hm]
                  · unfold World.freeze; rw [if_neg hm]
              · cases h
            · cases h
          · cases h
        · cases h
    · cases h
  · cases h

end Go.Eng

namespace Go.Eng
open Go.RowKit

variable {P : Program} {G N : Nat}

theorem h_get {α : Type} {a : Array α} {k : Nat} {v : α} (h : a[k]? = some v) : k < a.size := by
  rw [Array.getElem?_eq_some_iff] at h; exact h.1

theorem bytesA_sound {r : PM} {H H' : AH} {w : World} (hrel : Rel P G N r H w) {el : TypeId} {s : ByteArray} {v : Value} (hes : esz P el = 1) (h : bytesA el s H = some (v, H')) : ValT P G N r H w v H' (Conv.stringToBytes el s) := by
  unfold bytesA at h
  split at h
  · rename_i hc
    simp only [Bool.and_eq_true, decide_eq_true_eq] at hc
    simp only [Option.some.injEq, Prod.mk.injEq] at h
    obtain ⟨rfl, rfl⟩ := h
    have hex : ∃ cap d, s.size ≤ cap ∧ (Conv.stringToBytes el s).run P w = .ok (.slice (some ⟨w.heap.size, 0, none⟩) s.size cap)
        (World.freeze { w with drawn := d, heap := w.heap.push (.cells (s.data.map (fun b => Value.int .u8 b.toNat) ++ Array.replicate (cap - s.size) (.int .u8 0)) el) } ⟨w.heap.size, (s.data.map (fun b => Value.int .u8 b.toNat) ++ Array.replicate (cap - s.size) (Value.int .u8 0)).size, none⟩ 1) := by
      refine ⟨(Question.appendCap s.size 0 el).cut (w.tape w.drawn (.appendCap s.size 0 el)), w.drawn + 1, Nat.le_add_right _ _, ?_⟩
      unfold Conv.stringToBytes
      show (Sem.choose _ _).run P w = _
      simp only [Sem.run, Question.forced, Bool.false_eq_true, if_false, Sem.bind]
      generalize (Question.appendCap s.size 0 el).cut (w.tape w.drawn (.appendCap s.size 0 el)) = cap
      show ((newRow el _) >>= _).run P _ = _
      rw [run_b (run_newRow el _ _)]
      have hms : ∀ (w1 : World) (c : Array Value), w1.heap[w.heap.size]? = some (.cells c el) → (markStringish ⟨w.heap.size, 0, none⟩).run P w1 = .ok () (w1.freeze ⟨w.heap.size, c.size, none⟩ 1) := by
        intro w1 c hw
        unfold markStringish
        have hsh : (shape w.heap.size).run P w1 = .ok (some (el, c.size)) w1 := by
          show Result.ok (w1.shape? w.heap.size) w1 = _
          unfold World.shape?
          rw [hw]
        rw [run_b hsh]
        rfl
      rw [run_b (hms _ _ (by show (w.heap.push _)[w.heap.size]? = _; rw [Array.getElem?_push_size]))]
      rfl
    obtain ⟨cap, d, hcap, hrun⟩ := hex
    generalize hcc : (s.data.map (fun b => Value.int .u8 b.toNat) ++ Array.replicate (cap - s.size) (Value.int .u8 0)) = cc at hrun
    have hsz : cc.size = s.size + (cap - s.size) := by rw [← hcc]; simp
    have hfr : (World.freeze { w with drawn := d, heap := w.heap.push (.cells cc el) } ⟨w.heap.size, cc.size, none⟩ 1) = { w with drawn := d, heap := w.heap.push (.cells cc el (cc.size, cc.size + 1)) } := by
      unfold World.freeze
      rw [if_neg (by decide)]
      congr 1
      refine Array.ext_getElem? fun k => ?_
      rw [Array.getElem?_modify, Array.getElem?_push, Array.getElem?_push]
      by_cases hk : k = w.heap.size
      · subst hk
        simp
      · rw [if_neg (fun h => hk h.symm), if_neg hk, if_neg hk]
    rw [hfr] at hrun
    refine ⟨ins r H.next (w.heap.size, 0, cap - s.size), _, _, hrun, ?_, ?_⟩
    · simp only [VR]
      exact ⟨trivial, .inr ⟨0, cap - s.size, ins_same _ _ _, by simp, trivial, trivial, by omega⟩⟩
    · refine Ex.fresh hrel hc.1 (by simp) (by simp) (Nat.le_refl _) (fun k hk => ?_) ?_ rfl rfl rfl
      · show (w.heap.push _)[k]? = _
        rw [Array.getElem?_push, if_neg (by omega)]
      · show ObjAt P r 0 (cap - s.size) _ (w.heap.push _)[w.heap.size]?
        rw [Array.getElem?_push_size]
        refine ⟨cc, _, rfl, ?_, fun k v hk => ?_, fun k _ h2 h3 => ?_, fun h0 => ?_, fun h0 => ?_⟩
        · rw [hes, hsz]; simp
        · refine ⟨v, ?_, ?_⟩
          · have hlt : k < (s.data.map (fun b => Value.int .u8 b.toNat)).size := h_get hk
            rw [Nat.zero_add, ← hcc, Array.getElem?_append_left hlt]
            exact hk
          · rw [Array.getElem?_map, Option.map_eq_some_iff] at hk
            obtain ⟨b, _, rfl⟩ := hk
            exact flat_refl r _ rfl
        · unfold inFrozen at h3
          simp only [Bool.and_eq_true, decide_eq_true_eq] at h3
          omega
        · simp only at h0; omega
        · simp only [Prod.mk.injEq] at h0; omega
  · cases h

theorem valued_inv {q : Option (Value × AH)} {n : Next} {H' : AH} (h : valued q = some (n, H')) : ∃ v, q = some (v, H') ∧ n = .value v := by
  unfold valued at h
  split at h
  · simp only [Option.some.injEq, Prod.mk.injEq] at h
    obtain ⟨rfl, rfl⟩ := h
    exact ⟨_, rfl, rfl⟩
  · cases h

theorem samePtr_run {r : PM} {H : AH} {w : World} (hrel : Rel P G N r H w) {src dst : TypeId} {a b : Addr} (hs : samePtr P src dst a H = true) (har : AR r a b) : (convert src dst (.pointer (some b))).run P w = .ok (.pointer (some b)) w := by
  unfold samePtr at hs
  split at hs
  · rename_i d1 d2 c e fz hu1 hu2 hg
    cases hz : (fz == ((0, 0) : Nat × Nat)) with
    | false => rw [hz, ifb_false] at hs; cases hs
    | true =>
      rw [hz, ifb_true] at hs
      have hfz : fz = (0, 0) := by simpa using hz
      subst hfz
      obtain ⟨s, x, k1, k2, k3, k4⟩ := har
      obtain ⟨b1, s1, x1, f1, _, c', fz', g1, g2, g3, g4, g5, g6⟩ := hrel.obj _ _ hg rfl
      rw [k1] at f1
      simp only [Option.some.injEq, Prod.mk.injEq] at f1
      obtain ⟨rfl, rfl, rfl⟩ := f1
      obtain ⟨rfl, rfl⟩ := g6 rfl
      have hsz : c'.size = c.size := by rw [g2]; simp
      have hsh : (shape b.block).run P w = .ok (some (e, c'.size)) w := by
        show Result.ok (w.shape? b.block) w = _
        unfold World.shape?
        rw [g1]
      have hview : (viewAt b.block).run P w = .ok none w := by
        unfold viewAt
        rw [run_b hsh]
        rfl
      have hcells : (cellsIn b.block).run P w = .ok (some c'.size) w := by
        unfold cellsIn
        rw [run_b hsh]
        rfl
      have hseen : (Conv.seenAt b).run P w = .ok b w := by
        unfold Conv.seenAt
        rw [run_b hview]
        rfl
      have hoff : b.off = a.off := by omega
      split at hs
      · rename_i t
        cases h6 : Nat.beq d2.ctorIdx 6 with
        | false => rw [h6, ifb_false] at hs; cases hs
        | true =>
          rw [h6, ifb_true] at hs
          cases hlt : Nat.blt a.off c.size with
          | false => rw [hlt, ifb_false] at hs; cases hs
          | true =>
            rw [hlt, ifb_true] at hs
            have hlt' : a.off < c.size := Nat.lt_of_succ_le (by simpa [Nat.blt] using hlt)
            split at hs
            · rename_i i hi
              cases h0 : Nat.beq i.size 0 with
              | true => rw [h0, ifb_true] at hs; cases hs
              | false =>
                have hi0 : i.size ≠ 0 := fun h => by rw [h] at h0; cases h0
                cases d2 <;> first | (exact Bool.noConfusion (show false = true from h6)) | skip
                unfold convert
                rw [run_b (underlying_run hu1 w), run_b (underlying_run hu2 w)]
                show (underlying src >>= _ : Sem Value).run P w = _
                rw [run_b (underlying_run hu1 w)]
                show (underlying dst >>= _ : Sem Value).run P w = _
                rw [run_b (underlying_run hu2 w)]
                show (Conv.seenAt b >>= _ : Sem Value).run P w = _
                rw [run_b hseen]
                show (cellsIn b.block >>= _ : Sem Value).run P w = _
                rw [run_b hcells]
                show (sizeOf t >>= _ : Sem Value).run P w = _
                rw [run_b (size_run hi w)]
                rw [if_neg (by
                  simp only [Bool.or_eq_true, decide_eq_true_eq, Bool.and_eq_true, not_or, not_and]
                  exact ⟨hi0, fun h => by omega⟩)]
                rfl
            · cases hs
      · split at hs
        · rename_i u
          cases h6 : Nat.beq d1.ctorIdx 6 with
          | false => rw [h6, ifb_false] at hs; cases hs
          | true =>
            rw [h6, ifb_true] at hs
            split at hs
            · rename_i i hi
              have hva : (variablesAt b u 1).run P w = .ok true w := by
                unfold variablesAt
                rw [run_b (a := P) (w1 := w) rfl]
                rw [run_b hsh]
                show Result.ok _ w = _
                rw [hsz, hoff, hs]
              cases d1 <;> first | (exact Bool.noConfusion (show false = true from h6)) | skip
              unfold convert
              rw [run_b (underlying_run hu1 w), run_b (underlying_run hu2 w)]
              show (underlying src >>= _ : Sem Value).run P w = _
              rw [run_b (underlying_run hu1 w)]
              show (underlying dst >>= _ : Sem Value).run P w = _
              rw [run_b (underlying_run hu2 w)]
              show (Conv.seenAt b >>= _ : Sem Value).run P w = _
              rw [run_b hseen]
              show (sizeOf u >>= _ : Sem Value).run P w = _
              rw [run_b (size_run hi w)]
              show (variablesAt b u 1 >>= _ : Sem Value).run P w = _
              rw [run_b hva]
              rw [if_pos (by simp)]
              rfl
            · cases hs
        · cases hs
  · cases hs

theorem byteList_ints : ∀ {l : List Value} {bs : List UInt8}, byteList l = some bs → ∃ ns : List Int, l = ns.map (Value.int .u8) ∧ bs = ns.map fun n => UInt8.ofNat n.toNat
  | [], bs, h => by simp only [byteList, Option.some.injEq] at h; subst h; exact ⟨[], rfl, rfl⟩
  | a :: l, bs, h => by
    unfold byteList at h
    split at h
    · rename_i heq; cases heq
    · rename_i n l' heq
      cases heq
      split at h
      · rename_i m hm
        simp only [Option.some.injEq] at h
        obtain ⟨ns, rfl, rfl⟩ := byteList_ints hm
        exact ⟨n :: ns, rfl, by rw [← h]; rfl⟩
      · cases h
    · cases h
theorem fold_bytes : ∀ (ns : List Int) (acc : ByteArray), ns.foldl (fun r n => r.push (UInt8.ofNat n.toNat)) acc = ⟨acc.data ++ (ns.map fun n => UInt8.ofNat n.toNat).toArray⟩
  | [], acc => by simp
  | n :: ns, acc => by
    rw [List.foldl_cons, fold_bytes ns]
    simp [ByteArray.push]
theorem ints_flat (ns : List Int) : flat (.tuple ⟨ns.map (Value.int .u8)⟩) = true := by
  have : ∀ ns : List Int, flat.go (ns.map (Value.int .u8)) = true := by
    intro ns
    induction ns with
    | nil => rfl
    | cons n ns ih => simp [flat.go, flat, ih]
  simpa [flat] using this ns
theorem text_nil {src dst : TypeId} (ht : isText P src dst = true) (w : World) (l c : Nat) : (convert src dst (.slice none l c)).run P w = .ok (.string .empty) w := by
  unfold isText at ht
  split at ht
  · rename_i el hu1 hu2
    split at ht
    · rename_i hu3
      unfold convert
      rw [run_b (underlying_run hu1 w), run_b (underlying_run hu2 w)]
      show ((underlying el) >>= _).run P w = _
      rw [run_b (underlying_run hu3 w)]
      rfl
    · cases ht
  · cases ht
theorem textOf_run {r : PM} {H : AH} {w : World} (hrel : Rel P G N r H w) {src dst : TypeId} (ht : isText P src dst = true) {x x' v : Value} (hv : VR r x x') (h : textOf x H = some v) : (convert src dst x').run P w = .ok v w ∧ VR r v v := by
  unfold isText at ht
  split at ht
  · rename_i el hu1 hu2
    split at ht
    · rename_i hu3
      unfold textOf at h
      split at h
      · simp only [Option.some.injEq] at h
        subst h
        refine ⟨?_, flat_refl r _ rfl⟩
        rw [flat_eq (r := r) rfl hv]
        unfold convert
        rw [run_b (underlying_run hu1 w), run_b (underlying_run hu2 w)]
        show ((underlying el) >>= _).run P w = _
        rw [run_b (underlying_run hu3 w)]
        rfl
      · rename_i a len cap
        cases hc : ifb (Nat.blt 0 cap) (Nat.blt 0 H.next) false with
        | false => rw [hc, ifb_false] at h; cases h
        | true =>
          rw [hc, ifb_true] at h
          rw [ifb_and, Bool.and_eq_true] at hc
          have hcap : 0 < cap := by simpa [Nat.blt_eq] using hc.1
          split at h
          · rename_i l hl
            split at h
            · rename_i bs hbs
              simp only [Option.some.injEq] at h
              subst h
              refine ⟨?_, flat_refl r _ rfl⟩
              obtain ⟨b, s, q, e1, e2, e3, e4, e5⟩ := hv.slice_some hcap
              obtain ⟨l', o1, o2⟩ := cells_run (P := P) hrel hl (fun _ => (⟨s, q, e2, e3, e4, e5⟩ : AR r a b))
              obtain ⟨ns, rfl, rfl⟩ := byteList_ints hbs
              have hl' : l' = ns.map (Value.int .u8) := by
                have := flat_eq (r := r) (v := .tuple ⟨ns.map (Value.int .u8)⟩) (w := .tuple ⟨l'⟩) (ints_flat ns) (by simpa [VR] using o2)
                simpa using this
              subst hl'
              rw [e1]
              unfold convert
              rw [run_b (underlying_run hu1 w), run_b (underlying_run hu2 w)]
              show ((underlying el) >>= _).run P w = _
              rw [run_b (underlying_run hu3 w)]
              show (Conv.bytesToString (.slice (some b) len _)).run P w = _
              rw [run_bytesToString w b len _ ns (by simpa using o1 w.drawn), fold_bytes]
              simp [ByteArray.empty, ByteArray.emptyWithCapacity]
              rfl
            · cases h
          · cases h
      · cases h
    · cases ht
  · cases ht

theorem opConv_sound {e e' : Operand → Value} {o : Oper} {src dst : TypeId} {x : Operand} (ho : o.op = .convert src dst x) {r : PM} {H H' : AH} {w : World} {n : Next} (hrel : Rel P G N r H w) (he : ∀ x, okOpd G x = true → VR r (e x) (e' x)) (hx : okOpd G x = true)
    (h : opConv P G e o H src dst (e x) = some (n, H')) : OpT P G N r H w n H' (execOp e' o) := by
  have hv := he x hx
  unfold opConv at h
  split at h
  · rename_i el hb
    split at h
    · rename_i s hs
      rw [hs] at hv
      obtain ⟨v, h1, rfl⟩ := valued_inv h
      have hex : execOp e' o = (do pure (Next.value (← convert src dst (e' x))) : Sem Next) := by unfold execOp; simp only [ho]
      rw [hex, hv.string_inv]
      unfold isBytes at hb
      split at hb
      · rename_i el' hu1 hu2
        split at hb
        · rename_i hu3
          cases hes : Nat.beq (esz P el') 1 with
          | false => rw [hes, ifb_false] at hb; cases hb
          | true =>
            rw [hes, ifb_true] at hb
            simp only [Option.some.injEq] at hb
            subst hb
            obtain ⟨s1, v', w', g1, g2, g3⟩ := bytesA_sound (P := P) hrel (Nat.eq_of_beq_eq_true hes) h1
            refine ValT.op ⟨s1, v', w', ?_, g2, g3⟩
            unfold convert
            rw [run_b (underlying_run hu1 w), run_b (underlying_run hu2 w)]
            show ((underlying el') >>= _).run P w = _
            rw [run_b (underlying_run hu3 w)]
            exact g1
        · cases hb
      · cases hb
    · cases h
  · cases ht : isText P src dst with
    | true =>
      rw [ht, ifb_true] at h
      unfold opLook at h
      split at h
      · rename_i v hv2
        simp only [Option.some.injEq, Prod.mk.injEq] at h
        obtain ⟨rfl, rfl⟩ := h
        have hex : execOp e' o = (do pure (Next.value (← convert src dst (e' x))) : Sem Next) := by unfold execOp; simp only [ho]
        rw [hex]
        have hr := textOf_run hrel ht hv hv2
        exact OpT.val hrel hr.1 hr.2
      · cases h
    | false =>
    rw [ht, ifb_false] at h
    split at h
    · rename_i a hxa
      cases hs : samePtr P src dst a H with
      | false => rw [hs, ifb_false] at h; exact gen_sound hrel he h
      | true =>
        rw [hs, ifb_true] at h
        simp only [Option.some.injEq, Prod.mk.injEq] at h
        obtain ⟨rfl, rfl⟩ := h
        rw [hxa] at hv
        obtain ⟨b, e1, har⟩ := hv.pointer_inv
        have hex : execOp e' o = (do pure (Next.value (← convert src dst (e' x))) : Sem Next) := by unfold execOp; simp only [ho]
        rw [hex, e1]
        refine OpT.val hrel (v' := .pointer (some b)) (samePtr_run hrel hs har) ?_
        rw [hxa]
        exact har
    · exact gen_sound hrel he h

end Go.Eng

namespace Go.Eng
open Go.RowKit

variable {P : Program} {G N : Nat}

/-! ### Addresses that are held against each other -/

theorem open_at {r : PM} {H : AH} {w : World} (hrel : Rel P G N r H w) {i b s x : Nat} (ho : open' H i = true) (hr : r i = some (b, s, x)) : (∃ o, H.get i = some o ∧ lives o = true) ∧ ∃ c e fz, w.heap[b]? = some (.cells c e fz) ∧ ∀ k, inFrozen fz k = false := by
  unfold open' at ho
  split at ho
  · rename_i c e fz hg
    refine ⟨⟨_, hg, rfl⟩, ?_⟩
    obtain ⟨b1, s1, x1, f1, _, c', fz', g1, _, _, _, g5, _⟩ := hrel.obj _ _ hg rfl
    rw [hr] at f1
    simp only [Option.some.injEq, Prod.mk.injEq] at f1
    obtain ⟨rfl, rfl, rfl⟩ := f1
    refine ⟨c', e, fz', g1, fun k => ?_⟩
    have := g5 (by simpa using ho)
    unfold inFrozen
    rw [this]
    simp
  · cases ho

theorem frozen_run {w : World} {a : Addr} {c : Array Value} {e : TypeId} {fz : Nat × Nat} (hw : w.heap[a.block]? = some (.cells c e fz)) (hf : ∀ k, inFrozen fz k = false) : (frozen a).run P w = .ok false w := by
  show Result.ok (w.frozen? a) w = _
  rw [frozen_eq w a hw, hf]

theorem shape_run {w : World} {b : Nat} {c : Array Value} {e : TypeId} {fz : Nat × Nat} (hw : w.heap[b]? = some (.cells c e fz)) : (shape b).run P w = .ok (some (e, c.size)) w := by
  show Result.ok (w.shape? b) w = _
  unfold World.shape?
  rw [hw]

theorem noView_run {w : World} {a : Addr} {c : Array Value} {e : TypeId} {fz : Nat × Nat} (hw : w.heap[a.block]? = some (.cells c e fz)) : (noView a).run P w = .ok () w := by
  unfold noView viewAt
  rw [run_b (a := none) (w1 := w) (by rw [run_b (shape_run hw)]; rfl)]
  rfl

theorem stringish_run {w : World} {a : Addr} {c : Array Value} {e : TypeId} {fz : Nat × Nat} (hw : w.heap[a.block]? = some (.cells c e fz)) (hf : ∀ k, inFrozen fz k = false) : (stringish a).run P w = .ok false w := by
  unfold stringish
  rw [run_b (frozen_run hw hf)]
  simp only [Bool.false_eq_true, if_false]
  rw [run_b (shape_run hw)]
  exact frozen_run (a := { block := a.block, off := c.size }) hw hf

theorem sameAddr_run {r : PM} {H : AH} {w : World} (hrel : Rel P G N r H w) {a b a' b' : Addr} (ha : AR r a a') (hb : AR r b b') (h1 : open' H a.block = true) (h2 : open' H b.block = true) : (sameAddr a' b').run P w = .ok (a.block == b.block && a.off == b.off) w := by
  obtain ⟨s, x, k1, k2, k3, k4⟩ := ha
  obtain ⟨t, y, l1, l2, l3, l4⟩ := hb
  obtain ⟨⟨o1, q1, q2⟩, c1, e1, f1, w1, z1⟩ := open_at hrel h1 k1
  obtain ⟨⟨o2, p1, p2⟩, c2, e2, f2, w2, z2⟩ := open_at hrel h2 l1
  unfold sameAddr
  by_cases hbl : a.block = b.block
  · rw [hbl] at k1
    rw [l1] at k1
    simp only [Option.some.injEq, Prod.mk.injEq] at k1
    obtain ⟨m1, rfl, rfl⟩ := k1
    rw [if_pos (by rw [m1]; simp)]
    show Result.ok (a' == b') w = _
    congr 1
    rw [hbl]
    obtain ⟨ab, ao, as⟩ := a'
    obtain ⟨bb, bo, bs⟩ := b'
    simp only at m1 k2 k4 l2 l4
    subst m1 k2 k4 l2 l4
    rw [Bool.eq_iff_iff]
    simp
  · have hne : a'.block ≠ b'.block := fun h => by rw [← h] at l1; exact hbl (hrel.inj _ _ _ _ _ _ _ _ _ q1 q2 p1 p2 k1 l1)
    rw [if_neg (by simpa using hne)]
    rw [run_b (frozen_run w1 z1), run_b (frozen_run w2 z2)]
    simp only [Bool.and_false, Bool.false_eq_true, if_false]
    rw [run_b (noView_run w1), run_b (noView_run w2)]
    have hm : (mayBeOne a' b').run P w = .ok false w := by
      unfold mayBeOne
      rw [run_b (stringish_run w1 z1), run_b (stringish_run w2 z2), run_b (w1 := w) (a := _) (by rw [run_b (shape_run w1)]; rfl), run_b (w1 := w) (a := _) (by rw [run_b (shape_run w2)]; rfl)]
      simp only [Bool.false_and, Bool.and_false, Bool.or_false]
      rfl
    rw [run_b hm]
    have : (a.block == b.block && a.off == b.off) = false := by simp [hbl]
    rw [this]
    rfl

theorem ptrEq_run {r : PM} {H : AH} {w : World} (hrel : Rel P G N r H w) {x y x' y' : Value} {q : Bool} {t el : TypeId} {inf : TypeInfo} (d : Nat) (hu : P.underlying t = some (.pointer el)) (hinf : P.info? el = some inf) (hsz : inf.size ≠ 0) (hx : VR r x x') (hy : VR r y y') (h : ptrEq H x y = some q) :
    (Op.equalIn (d + 1) t x' y').run P w = .ok q w := by
  unfold Op.equalIn
  rw [run_b (underlying_run hu w)]
  unfold ptrEq at h
  split at h
  · rw [flat_eq (r := r) rfl hx]
    split at h
    · rename_i b
      simp only [Option.some.injEq] at h
      subst h
      cases b with
      | none => rw [flat_eq (r := r) rfl hy]; rfl
      | some b => obtain ⟨c, e2, _⟩ := hy.pointer_inv; rw [e2]; rfl
    · cases h
  · obtain ⟨a', e1, ha⟩ := hx.pointer_inv
    rw [e1]
    split at h
    · simp only [Option.some.injEq] at h
      subst h
      rw [flat_eq (r := r) rfl hy]
      rfl
    · obtain ⟨b', e2, hb⟩ := hy.pointer_inv
      rw [e2]
      split at h
      · rename_i hc
        simp only [Bool.and_eq_true] at hc
        simp only [Option.some.injEq] at h
        subst h
        simp only
        rw [run_b (sizeOf_run hinf w), if_pos hsz]
        exact sameAddr_run hrel ha hb hc.1.2 hc.2
      · cases h
    · cases h
  · cases h

theorem bytes_beq (a b : ByteArray) : (a == b) = bEq a.data.toList b.data.toList := by
  rw [bEq_eq]
  obtain ⟨⟨a⟩⟩ := a
  obtain ⟨⟨b⟩⟩ := b
  have h : ((⟨⟨a⟩⟩ : ByteArray) == ⟨⟨b⟩⟩) = ((⟨a⟩ : Array UInt8) == ⟨b⟩) := rfl
  rw [h]
  rw [Bool.eq_iff_iff]
  simp

theorem keyEq1_run {r : PM} {H : AH} {w : World} (hrel : Rel P G N r H w) {x y x' y' : Value} {q : Bool} {t : TypeId} (d : Nat) (hx : VR r x x') (hy : VR r y y') (h : keyEq1 P H t x y = some q) :
    (Op.equalIn (d + 1) t x' y').run P w = .ok q w ∧ ∀ k p, P.underlying t = some k → Instr.sameNow k x' y' = some p → p = q := by
  unfold keyEq1 at h
  split at h
  · rename_i hu
    split at h
    · rename_i a b
      simp only [Option.some.injEq] at h
      subst h
      rw [hx.string_inv, hy.string_inv]
      refine ⟨?_, fun k p hk hp => ?_⟩
      · unfold Op.equalIn
        rw [run_b (underlying_run hu w)]
        show Result.ok (a == b) w = _
        rw [bytes_beq]
      · rw [hu] at hk
        simp only [Option.some.injEq] at hk
        subst hk
        simp only [Instr.sameNow, Option.some.injEq] at hp
        rw [← hp, bytes_beq]
    · cases h
  · rename_i kk hu
    split at h
    · rename_i i a j b
      cases hk : kEq i j with
      | false => rw [hk, ifb_false] at h; cases h
      | true =>
        rw [hk, ifb_true] at h
        have : i = j := by unfold kEq at hk; simpa using hk
        subst this
        simp only [Option.some.injEq] at h
        subst h
        rw [hx.int_inv, hy.int_inv]
        refine ⟨?_, fun k p hk hp => ?_⟩
        · unfold Op.equalIn
          rw [run_b (underlying_run hu w)]
          simp only [if_true]
          show Result.ok (a == b) w = _
          rw [iEq_eq]
        · rw [hu] at hk
          simp only [Option.some.injEq] at hk
          subst hk
          simp only [Instr.sameNow, if_true, Option.some.injEq] at hp
          rw [← hp, iEq_eq]
    · cases h
  · rename_i el hu
    cases hz : Nat.blt 1 (sz1 P el) with
    | false => rw [hz, ifb_false] at h; cases h
    | true =>
      rw [hz, ifb_true] at h
      have hlt : 1 < sz1 P el := by simpa [Nat.blt_eq] using hz
      unfold sz1 at hlt
      split at hlt
      · rename_i inf hinf
        refine ⟨ptrEq_run hrel d hu hinf (by omega) hx hy h, fun k p hk hp => ?_⟩
        rw [hu] at hk
        simp only [Option.some.injEq] at hk
        subst hk
        simp [Instr.sameNow] at hp
      · omega
  · cases h

end Go.Eng

namespace Go.Eng
open Go.RowKit

variable {P : Program} {G N : Nat}

theorem simple_inv {t : TypeId} (h : simple P t = true) : ∃ k, P.underlying t = some k ∧ (k = .string ∨ (∃ i, k = .int i) ∨ ∃ el, k = .pointer el) := by
  unfold simple at h
  split at h
  · exact ⟨_, by assumption, .inl rfl⟩
  · exact ⟨_, by assumption, .inr (.inl ⟨_, rfl⟩)⟩
  · exact ⟨_, by assumption, .inr (.inr ⟨_, rfl⟩)⟩
  · cases h

theorem keyEq1_simple {H : AH} {t : TypeId} {x y : Value} {q : Bool} (h : keyEq1 P H t x y = some q) : simple P t = true := by
  unfold keyEq1 at h
  unfold simple
  split at h <;> first | (cases h; done) | rfl

theorem part_run {t : TypeId} (h : simple P t = true) {xs : Array Value} {off : Nat} {v : Value} (hx : xs[off]? = some v) (w : World) : (part t xs off).run P w = .ok v w := by
  obtain ⟨k, hu, hk⟩ := simple_inv h
  unfold part
  have ha : (isAgg t).run P w = .ok false w := by
    unfold isAgg
    rw [run_b (underlying_run hu w)]
    rcases hk with rfl | ⟨i, rfl⟩ | ⟨el, rfl⟩ <;> rfl
  rw [run_b ha]
  simp only [Bool.false_eq_true, if_false, hx]
  rfl

theorem fields_run {r : PM} {H : AH} {w : World} (hrel : Rel P G N r H w) {xs ys : List Value} {xs' ys' : Array Value} (d : Nat) (hx : VL r xs xs'.toList) (hy : VL r ys ys'.toList) : ∀ (l : List Field) (q : Bool), fieldsEq P H xs ys l = some q →
    (forIn l ((none : Option Bool), ()) fun f __s => (if f.name ≠ "_" then do
                let __do_lift ← part f.type xs' f.offset
                let __do_lift_1 ← part f.type ys' f.offset
                let __do_lift ← Op.equalIn (d + 1) f.type __do_lift __do_lift_1
                if (!__do_lift) = true then pure (ForInStep.done (some false, ()))
                  else pure (ForInStep.yield (none, ()))
              else pure (ForInStep.yield (none, ())) : Sem (ForInStep (Option Bool × Unit)))).run P w = .ok ((if q then none else some false), ()) w
  | [], q, h => by
    simp only [fieldsEq, Option.some.injEq] at h
    subst h
    rfl
  | f :: l, q, h => by
    simp only [fieldsEq] at h
    split at h
    · rename_i p hp
      split at h
      · rename_i u hu
        split at h
        · rename_i b hb
          cases hn : decide (f.name = "_") with
          | true => rw [hn, ifb_true] at h; cases h
          | false =>
            rw [hn, ifb_false] at h
            have hname : f.name ≠ "_" := by simpa using hn
            obtain ⟨p', e1, e2⟩ := hx.get hp
            obtain ⟨u', f1, f2⟩ := hy.get hu
            rw [Array.getElem?_toList] at e1 f1
            have hs := keyEq1_simple hb
            have hk := (keyEq1_run (P := P) hrel d e2 f2 hb).1
            rw [List.forIn_cons]
            have hb1 : ((if f.name ≠ "_" then do
                let __do_lift ← part f.type xs' f.offset
                let __do_lift_1 ← part f.type ys' f.offset
                let __do_lift ← Op.equalIn (d + 1) f.type __do_lift __do_lift_1
                if (!__do_lift) = true then pure (ForInStep.done (some false, ()))
                  else pure (ForInStep.yield (none, ()))
              else pure (ForInStep.yield (none, ())) : Sem (ForInStep (Option Bool × Unit)))).run P w = .ok (if b then .yield (none, ()) else .done (some false, ())) w := by
              rw [if_pos hname, run_b (part_run hs e1 w), run_b (part_run hs f1 w), run_b hk]
              cases b <;> rfl
            rw [run_b hb1]
            cases b with
            | true =>
              rw [ifb_true] at h
              exact fields_run hrel d hx hy l q h
            | false =>
              rw [ifb_false] at h
              simp only [Option.some.injEq] at h
              subst h
              rfl
        · cases h
      · cases h
    · cases h

theorem keyEq_run {r : PM} {H : AH} {w : World} (hrel : Rel P G N r H w) {x y x' y' : Value} {q : Bool} {t : TypeId} (hx : VR r x x') (hy : VR r y y') (h : keyEq P H t x y = some q) :
    (Op.equal t x' y').run P w = .ok q w ∧ ∀ k p, P.underlying t = some k → Instr.sameNow k x' y' = some p → p = q := by
  unfold keyEq at h
  split at h
  · rename_i fs hu
    split at h
    · rename_i xs
      split at h
      · rename_i ys
        cases hst : P.stoodInHeld t with
        | true => rw [hst, ifb_true] at h; cases h
        | false =>
          rw [hst, ifb_false] at h
          cases x' <;> try (simp only [VR] at hx; done)
          rename_i xs'
          cases y' <;> try (simp only [VR] at hy; done)
          rename_i ys'
          refine ⟨?_, fun k p hk hp => ?_⟩
          · show (Op.equalIn (9999 + 1) t (.agg xs') (.agg ys')).run P w = _
            unfold Op.equalIn
            rw [run_b (underlying_run hu w)]
            simp only
            rw [run_b (a := P) (w1 := w) rfl]
            simp only [hst, Bool.false_eq_true, if_false]
            rw [← Array.forIn_toList]
            rw [run_b (fields_run (P := P) hrel 9998 (VR.agg.1 hx) (VR.agg.1 hy) fs.toList q h)]
            cases q <;> rfl
          · rw [hu] at hk
            simp only [Option.some.injEq] at hk
            subst hk
            simp [Instr.sameNow] at hp
      · cases h
    · cases h
  · exact keyEq1_run hrel 9999 hx hy h

theorem check1_run {t : TypeId} (h : simple P t = true) (em : Bool) (d : Nat) (v : Value) (w : World) : (Instr.checkKey em (d + 1) t v).run P w = .ok () w := by
  obtain ⟨k, hu, hk⟩ := simple_inv h
  unfold Instr.checkKey
  rw [run_b (underlying_run hu w)]
  rcases hk with rfl | ⟨i, rfl⟩ | ⟨el, rfl⟩ <;> rfl

theorem checks_run {xs : List Value} {xs' : Array Value} (em : Bool) (d : Nat) (w : World) (hlen : xs'.size = xs.length) : ∀ (l : List Field), fieldsOk P xs l = true →
    (forIn l PUnit.unit fun f __s => (if f.name ≠ "_" then do
              let __do_lift ← part f.type xs' f.offset
              Instr.checkKey em (d + 1) f.type __do_lift
              pure (ForInStep.yield PUnit.unit)
            else pure (ForInStep.yield PUnit.unit) : Sem (ForInStep PUnit))).run P w = .ok PUnit.unit w
  | [], _ => rfl
  | f :: l, h => by
    simp only [fieldsOk, ifb_and, Bool.and_eq_true] at h
    obtain ⟨⟨h1, h2⟩, h3⟩ := h
    rw [List.forIn_cons]
    have hb : ((if f.name ≠ "_" then do
              let __do_lift ← part f.type xs' f.offset
              Instr.checkKey em (d + 1) f.type __do_lift
              pure (ForInStep.yield PUnit.unit)
            else pure (ForInStep.yield PUnit.unit) : Sem (ForInStep PUnit))).run P w = .ok (.yield PUnit.unit) w := by
      by_cases hn : f.name ≠ "_"
      · rw [if_pos hn]
        have hlt : f.offset < xs'.size := by
          rw [hlen]
          rcases Nat.lt_or_ge f.offset xs.length with h0 | h0
          · exact h0
          · rw [List.getElem?_eq_none h0] at h2; cases h2
        rw [run_b (part_run h1 (v := xs'[f.offset]) (by simp [hlt]) w), run_b (check1_run h1 em d _ w)]
        rfl
      · rw [if_neg hn]; rfl
    rw [run_b hb]
    exact checks_run em d w hlen l h3

theorem keyOk_run {r : PM} {t : TypeId} {k k' : Value} (hv : VR r k k') (h : keyOk P t k = true) (em : Bool) (w : World) : (Instr.checkKey em 10000 t k').run P w = .ok () w := by
  unfold keyOk at h
  split at h
  · rename_i fs hu
    split at h
    · rename_i xs
      cases k' <;> try (simp only [VR] at hv; done)
      rename_i xs'
      show (Instr.checkKey em (9999 + 1) t (.agg xs')).run P w = _
      unfold Instr.checkKey
      rw [run_b (underlying_run hu w)]
      simp only
      rw [← Array.forIn_toList]
      have hl := (VR.agg.1 hv).length
      rw [run_b (checks_run em 9998 w (xs := xs) (by simpa using hl) fs.toList h)]
      rfl
    · cases h
  · exact check1_run h em 9999 k' w

def RO (r : PM) : Option (Nat × Value) → Option (Nat × Value) → Prop
  | none, none => True
  | some (i, v), some (j, u) => j = i ∧ VR r v u
  | _, _ => False

theorem find_run {r : PM} {H : AH} {w : World} (hrel : Rel P G N r H w) {kt : TypeId} {k k' : Value} (hk : VR r k k') : ∀ (es es' : List MapEntry) (i : Nat) (res : Option (Nat × Value)), EL r es es' → findA P H kt k es i = some res →
    (∃ q, (Instr.findAsking kt k' es' i).run P w = .ok q w ∧ RO r res q) ∧ ∀ kind q, P.underlying kt = some kind → Instr.findNow kind k' es' i = some q → RO r res q
  | [], [], i, res, _, h => by
    simp only [findA, Option.some.injEq] at h
    subst h
    refine ⟨⟨none, rfl, trivial⟩, fun kind q _ hq => ?_⟩
    simp only [Instr.findNow, Option.some.injEq] at hq
    subst hq
    trivial
  | e :: es, f :: fs, i, res, hel, h => by
    simp only [EL] at hel
    obtain ⟨⟨h1, h2, _⟩, h3⟩ := hel
    simp only [findA] at h
    split at h
    · rename_i hq
      simp only [Option.some.injEq] at h
      subst h
      obtain ⟨g1, g2⟩ := keyEq_run (P := P) hrel hk h1 hq
      refine ⟨⟨some (i, f.val), ?_, rfl, h2⟩, fun kind q hu hn => ?_⟩
      · unfold Instr.findAsking
        rw [run_b g1]
        rfl
      · unfold Instr.findNow at hn
        split at hn
        · simp only [Option.some.injEq] at hn; subst hn; exact ⟨rfl, h2⟩
        · rename_i hs; cases g2 _ _ hu hs
        · cases hn
    · rename_i hq
      obtain ⟨g1, g2⟩ := keyEq_run (P := P) hrel hk h1 hq
      obtain ⟨⟨q, a1, a2⟩, a3⟩ := find_run hrel hk es fs (i + 1) res h3 h
      refine ⟨⟨q, ?_, a2⟩, fun kind q hu hn => ?_⟩
      · unfold Instr.findAsking
        rw [run_b g1]
        exact a1
      · unfold Instr.findNow at hn
        split at hn
        · rename_i hs; cases g2 _ _ hu hs
        · exact a3 kind q hu hn
        · cases hn
    · cases h
  | [], _ :: _, _, _, hel, _ => by simp [EL] at hel
  | _ :: _, [], _, _, hel, _ => by simp [EL] at hel

theorem findKey_run {r : PM} {H : AH} {w : World} (hrel : Rel P G N r H w) {kt : TypeId} {kind : TypeDesc} (hu : P.underlying kt = some kind) {k k' : Value} (hk : VR r k k') {es es' : List MapEntry} {res : Option (Nat × Value)} (hel : EL r es es') (h : findA P H kt k es 0 = some res) :
    ∃ q, (Instr.findKey kt k' es').run P w = .ok q w ∧ RO r res q := by
  obtain ⟨⟨q, a1, a2⟩, a3⟩ := find_run (P := P) hrel hk es es' 0 res hel h
  unfold Instr.findKey
  rw [run_b (underlying_run hu w)]
  cases hn : Instr.findNow kind k' es' 0 with
  | none => exact ⟨q, a1, a2⟩
  | some p => exact ⟨p, rfl, a3 kind p hu hn⟩

end Go.Eng

namespace Go.Eng
open Go.RowKit

variable {P : Program} {G N : Nat}

theorem VR.map_some {r : PM} {a : Nat} {v : Value} (h : VR r (.map (some a)) v) : ∃ b, v = .map (some b) ∧ BR r a b := by
  cases v <;> try (simp only [VR] at h; done)
  rename_i b
  cases b <;> simp only [VR] at h
  exact ⟨_, rfl, h⟩

theorem EL.get {r : PM} : ∀ {l m : List MapEntry}, EL r l m → ∀ {i : Nat} {e : MapEntry}, l[i]? = some e → ∃ f, m[i]? = some f ∧ VR r e.key f.key
  | e :: l, f :: m, h, 0, x, hx => by simp only [EL] at h; simp at hx; subst hx; exact ⟨f, by simp, h.1.1⟩
  | e :: l, f :: m, h, i + 1, x, hx => by simp only [EL] at h; simp at hx ⊢; exact EL.get h.2 hx
  | [], _, _, _, _, hx => by simp at hx
  | _ :: _, [], h, _, _, _ => by simp [EL] at h

theorem EL.length {r : PM} : ∀ {l m : List MapEntry}, EL r l m → m.length = l.length
  | [], [], _ => rfl
  | _ :: l, _ :: m, h => by simp only [EL] at h; simp [EL.length h.2]
  | [], _ :: _, h => by simp [EL] at h
  | _ :: _, [], h => by simp [EL] at h

theorem EL.append {r : PM} : ∀ {l m l' m' : List MapEntry}, EL r l m → EL r l' m' → EL r (l ++ l') (m ++ m')
  | [], [], _, _, _, k => k
  | _ :: _, _ :: _, _, _, h, k => by simp only [EL] at h; simp only [List.cons_append, EL]; exact ⟨h.1, EL.append h.2 k⟩
  | [], _ :: _, _, _, h, _ => by simp [EL] at h
  | _ :: _, [], _, _, h, _ => by simp [EL] at h

theorem EL.modify {r : PM} {k k' v v' : Value} (hk : VR r k k') (hv : VR r v v') : ∀ {l m : List MapEntry}, EL r l m → ∀ i, EL r (l.modify i fun e => { e with key := k, val := v }) (m.modify i fun e => { e with key := k', val := v' })
  | [], [], _, i => by simp [EL]
  | e :: l, f :: m, h, 0 => by
    simp only [EL] at h
    simp only [List.modify_zero_cons, EL]
    exact ⟨⟨hk, hv, h.1.2.2⟩, h.2⟩
  | e :: l, f :: m, h, i + 1 => by
    simp only [EL] at h
    simp only [List.modify_succ_cons, EL]
    exact ⟨h.1, EL.modify hk hv h.2 i⟩
  | [], _ :: _, h, _ => by simp [EL] at h
  | _ :: _, [], h, _ => by simp [EL] at h

theorem lookup_run {w : World} {t kt et : TypeId} {m' k' : Value} {ok : Bool} {es' : Array MapEntry} {q : Option (Nat × Value)} {z : Value} (hu : P.underlying t = some (.map kt et)) (hm : (m' = .map none ∧ es' = #[]) ∨ ∃ b n', m' = .map (some b) ∧ (getObj b).run P w = .ok (.map es' n') w)
    (hck : (Instr.checkKey es'.isEmpty 10000 kt k').run P w = .ok () w) (hf : (Instr.findKey kt k' es'.toList).run P w = .ok q w) (hz : q = none → (zeroValue et).run P w = .ok z w) :
    (Instr.lookup t m' k' ok).run P w = .ok (match q with | some p => if ok then .tuple #[p.2, .bool true] else p.2 | none => if ok then .tuple #[z, .bool false] else z) w := by
  have fin : ((do
      Instr.checkKey es'.isEmpty 10000 kt k'
      let (v, ok') ← match ← Instr.findKey kt k' es'.toList with
        | some (_, v) => pure (v, true)
        | none => pure (← zeroValue et, false)
      pure (if ok then Value.tuple #[v, .bool ok'] else v) : Sem Value)).run P w = .ok (match q with | some p => if ok then .tuple #[p.2, .bool true] else p.2 | none => if ok then .tuple #[z, .bool false] else z) w := by
    rw [run_b hck, run_b hf]
    cases q with
    | some p => rfl
    | none =>
      show ((zeroValue et) >>= _).run P w = _
      rw [run_b (hz rfl)]
      rfl
  unfold Instr.lookup
  rw [run_b (underlying_run hu w)]
  rcases hm with ⟨rfl, rfl⟩ | ⟨b, n', rfl, hg⟩
  · exact fin
  · simp only
    rw [run_b hg]
    exact fin

theorem opLookup_sound {r : PM} {H H' : AH} {w : World} {n : Next} {t : TypeId} {m k m' k' : Value} {ok : Bool} (hrel : Rel P G N r H w) (hm : VR r m m') (hk : VR r k k') (h : opLook (lookupA P t m k ok H) H = some (n, H')) :
    OpT P G N r H w n H' (do pure (Next.value (← Instr.lookup t m' k' ok))) := by
  unfold opLook at h
  split at h
  · rename_i u hl
    simp only [Option.some.injEq, Prod.mk.injEq] at h
    obtain ⟨rfl, rfl⟩ := h
    unfold lookupA at hl
    split at hl
    · rename_i kt et hu
      split at hl
      · rename_i es hes
        cases hko : keyOk P kt k with
        | false => rw [hko, ifb_false] at hl; cases hl
        | true =>
          rw [hko, ifb_true] at hl
          have hukt : ∃ kind, P.underlying kt = some kind := by
            unfold keyOk at hko
            split at hko
            · exact ⟨_, by assumption⟩
            · obtain ⟨k, h1, _⟩ := simple_inv hko; exact ⟨k, h1⟩
          obtain ⟨kind, hukt⟩ := hukt
          -- the entries in the true memory
          have hent : ∃ es' : Array MapEntry, EL r es es'.toList ∧ ((m' = .map none ∧ es' = #[]) ∨ ∃ b n', m' = .map (some b) ∧ (getObj b).run P w = .ok (.map es' n') w) := by
            unfold entriesOf at hes
            split at hes
            · simp only [Option.some.injEq] at hes
              subst hes
              exact ⟨#[], trivial, .inl ⟨flat_eq (r := r) rfl hm, rfl⟩⟩
            · rename_i a
              obtain ⟨b, e1, hb⟩ := hm.map_some
              split at hes
              · rename_i es0 n0 hg
                simp only [Option.some.injEq] at hes
                subst hes
                obtain ⟨q, hq, ho⟩ := obj_get hrel hg rfl rfl hb
                cases q <;> simp only [OR] at ho
                rename_i es' n'
                refine ⟨es', ho.2, .inr ⟨b, n', e1, ?_⟩⟩
                show (Sem.getObj b Sem.pure).run P w = _
                simp only [Sem.run, hq]
              · cases hes
            · cases hes
          obtain ⟨es', hel, hrun⟩ := hent
          split at hl
          · rename_i i v hf
            simp only [Option.some.injEq] at hl
            subst hl
            obtain ⟨q, g1, g2⟩ := findKey_run (P := P) hrel hukt hk hel hf
            cases q with
            | none => simp [RO] at g2
            | some p =>
              obtain ⟨j, v'⟩ := p
              obtain ⟨_, hv⟩ := g2
              refine OpT.val hrel (lookup_run (z := .tuple #[]) hu hrun (keyOk_run hk hko es'.isEmpty w) g1 (fun h => by cases h)) ?_
              · cases ok
                · exact hv
                · show VR r (.tuple _) (.tuple _)
                  exact VR.tuple.2 (VL.cons hv (VL.cons (flat_refl r _ rfl) (VL.nil r)))
          · rename_i hf
            cases hz : zf P et with
            | false => rw [hz, ifb_false] at hl; cases hl
            | true =>
              rw [hz, ifb_true] at hl
              split at hl
              · rename_i z hzo
                simp only [Option.some.injEq] at hl
                subst hl
                obtain ⟨q, g1, g2⟩ := findKey_run (P := P) hrel hukt hk hel hf
                cases q with
                | some p => simp [RO] at g2
                | none =>
                  have hzv : VR r z z := flat_refl r z (zf_zero hz hzo)
                  refine OpT.val hrel (lookup_run (z := z) hu hrun (keyOk_run hk hko es'.isEmpty w) g1 (fun _ => zero_run hzo w)) ?_
                  · cases ok
                    · exact hzv
                    · show VR r (.tuple _) (.tuple _)
                      exact VR.tuple.2 (VL.cons hzv (VL.cons (flat_refl r _ rfl) (VL.nil r)))
              · cases hl
          · cases hl
      · cases hl
    · cases hl
  · cases h

theorem AR.inj {r : PM} {a b a' b' : Addr} (ha : AR r a a') (hb : AR r b b') (h1 : a.block = b.block) (h2 : a.off = b.off) : a' = b' := by
  obtain ⟨s, x, k1, k2, k3, k4⟩ := ha
  obtain ⟨t, y, l1, l2, l3, l4⟩ := hb
  rw [h1, l1] at k1
  simp only [Option.some.injEq, Prod.mk.injEq] at k1
  obtain ⟨m1, rfl, rfl⟩ := k1
  obtain ⟨ab, ao, as⟩ := a'
  obtain ⟨bb, bo, bs⟩ := b'
  simp only at m1 k2 k4 l2 l4
  subst m1 k2 k4 l2 l4
  rw [h2]

theorem bits_ptr (n : Nat) (a : Option Addr) : Instr.sameBits n (.pointer a) (.pointer a) = true := by
  cases n <;> simp [Instr.sameBits]

theorem cellSame_rel {r : PM} {x y x' y' : Value} (hx : VR r x x') (hy : VR r y y') (h : cellSame x y = true) : Instr.sameBits 9999 x' y' = true := by
  unfold cellSame at h
  split at h
  · obtain ⟨a', e1, ha⟩ := hx.pointer_inv
    split at h
    · obtain ⟨b', e2, hb⟩ := hy.pointer_inv
      rw [ifb_and, Bool.and_eq_true] at h
      rw [e1, e2, AR.inj ha hb (Nat.eq_of_beq_eq_true h.1) (Nat.eq_of_beq_eq_true h.2)]
      exact bits_ptr _ _
    · cases h
  · simp only [ifb_and, Bool.and_eq_true] at h
    rw [flat_eq h.1.1 hx, flat_eq h.1.2 hy]
    exact h.2

theorem cellsSame_rel {r : PM} : ∀ {xs ys xs' ys' : List Value}, VL r xs xs' → VL r ys ys' → cellsSame xs ys = true → xs'.length = ys'.length ∧ ((xs'.zip ys').all fun p => Instr.sameBits 9999 p.1 p.2) = true
  | [], [], [], [], _, _, _ => ⟨rfl, rfl⟩
  | a :: l, b :: m, a' :: l', b' :: m', hx, hy, h => by
    simp only [VL, VR.go] at hx hy
    simp only [cellsSame, ifb_and, Bool.and_eq_true] at h
    obtain ⟨h1, h2⟩ := cellsSame_rel hx.2 hy.2 h.2
    refine ⟨by simp [h1], ?_⟩
    simp only [List.zip_cons_cons, List.all_cons, Bool.and_eq_true]
    exact ⟨cellSame_rel hx.1 hy.1 h.1, h2⟩
  | [], _ :: _, _, _, _, _, h => by simp [cellsSame] at h
  | _ :: _, [], _, _, _, _, h => by simp [cellsSame] at h
  | [], [], _ :: _, _, hx, _, _ => by simp [VL, VR.go] at hx
  | [], [], [], _ :: _, _, hy, _ => by simp [VL, VR.go] at hy
  | _ :: _, _ :: _, [], _, hx, _, _ => by simp [VL, VR.go] at hx
  | _ :: _, _ :: _, _ :: _, [], _, hy, _ => by simp [VL, VR.go] at hy

theorem stays_rel {r : PM} {x y x' y' : Value} (hx : VR r x x') (hy : VR r y y') (h : stays x y = true) : Instr.sameBits 10000 x' y' = true := by
  unfold stays at h
  split at h
  · rename_i xs
    split at h
    · rename_i ys
      cases x' <;> try (simp only [VR] at hx; done)
      rename_i xs'
      cases y' <;> try (simp only [VR] at hy; done)
      rename_i ys'
      obtain ⟨h1, h2⟩ := cellsSame_rel (VR.agg.1 hx) (VR.agg.1 hy) h
      show Instr.sameBits (9999 + 1) (.agg xs') (.agg ys') = true
      unfold Instr.sameBits
      rw [Bool.and_eq_true]
      exact ⟨by simpa using h1, h2⟩
    · cases h
  · obtain ⟨a', e1, ha⟩ := hx.pointer_inv
    split at h
    · obtain ⟨b', e2, hb⟩ := hy.pointer_inv
      rw [ifb_and, Bool.and_eq_true] at h
      rw [e1, e2, AR.inj ha hb (Nat.eq_of_beq_eq_true h.1) (Nat.eq_of_beq_eq_true h.2)]
      exact bits_ptr _ _
    · cases h
  · simp only [ifb_and, Bool.and_eq_true] at h
    rw [flat_eq h.1.1 hx, flat_eq h.1.2 hy]
    exact h.2

theorem opUpdate_sound {r : PM} {H H' : AH} {w : World} {n : Next} {t : TypeId} {m k v m' k' v' : Value} (hrel : Rel P G N r H w) (hm : VR r m m') (hk : VR r k k') (hv : VR r v v') (h : opUpd (updateA P t m k v H) = some (n, H')) :
    OpT P G N r H w n H' (do Instr.mapUpdate t m' k' v'; pure Next.skip) := by
  unfold opUpd at h
  split at h
  · rename_i H1 hup
    simp only [Option.some.injEq, Prod.mk.injEq] at h
    obtain ⟨rfl, rfl⟩ := h
    unfold updateA at hup
    split at hup
    · rename_i kt et hu
      split at hup
      · rename_i a
        obtain ⟨b, e1, hb⟩ := hm.map_some
        split at hup
        · rename_i es c hg
          cases hc : ifb (Nat.ble H.lo a) (keyOk P kt k) false with
          | false => rw [hc, ifb_false] at hup; cases hup
          | true =>
            rw [hc, ifb_true] at hup
            rw [ifb_and, Bool.and_eq_true] at hc
            have hlo := Nat.le_of_ble_eq_true hc.1
            have hko := hc.2
            have hukt : ∃ kind, P.underlying kt = some kind := by
              unfold keyOk at hko
              split at hko
              · exact ⟨_, by assumption⟩
              · obtain ⟨k, h1, _⟩ := simple_inv hko; exact ⟨k, h1⟩
            obtain ⟨kind, hukt⟩ := hukt
            obtain ⟨q, hq, ho⟩ := obj_get hrel hg rfl rfl hb
            cases q <;> simp only [OR] at ho
            rename_i es' c'
            obtain ⟨rfl, hel⟩ := ho
            have hgo : (getObj b).run P w = .ok (.map es' c') w := by
              show (Sem.getObj b Sem.pure).run P w = _
              simp only [Sem.run, hq]
            have hso : ∀ o : Obj, (setObj b o).run P w = .ok () (w.putObj b o) := fun o => by
              show (Sem.setObj b o (Sem.pure ())).run P w = _
              simp only [Sem.run, hq]
              rfl
            split at hup
            · rename_i i u hf
              cases hst : stays (oldKey es.toList i k) k with
              | false => rw [hst, ifb_false] at hup; cases hup
              | true =>
                rw [hst, ifb_true] at hup
                simp only [Option.some.injEq] at hup
                subst hup
                obtain ⟨q, g1, g2⟩ := findKey_run (P := P) hrel hukt hk hel hf
                cases q with
                | none => simp [RO] at g2
                | some p =>
                  obtain ⟨j, u'⟩ := p
                  obtain ⟨rfl, _⟩ := g2
                  have hold : VR r (oldKey es.toList j k) (((es'[j]?).map (·.key)).getD k') := by
                    unfold oldKey
                    split
                    · rename_i e he
                      obtain ⟨f, f1, f2⟩ := hel.get he
                      rw [Array.getElem?_toList] at f1
                      rw [f1]
                      exact f2
                    · rename_i he
                      have hn : es'[j]? = none := by
                        rw [← Array.getElem?_toList, List.getElem?_eq_none_iff, hel.length, ← List.getElem?_eq_none_iff]
                        exact he
                      rw [hn]
                      exact hk
                  have hks : (Instr.keyThatStays (((es'[j]?).map (·.key)).getD k') k').run P w = .ok k' w := by
                    unfold Instr.keyThatStays
                    rw [if_pos (stays_rel hold hk hst)]
                    rfl
                  have hput := obj_put hrel hg rfl hlo hb hq (q := .map (es.modify j fun e => { e with key := k, val := v }) c') (q' := .map (es'.modify j fun e => { e with key := k', val := v' }) c') rfl (by
                    simp only [OR]
                    refine ⟨trivial, ?_⟩
                    simp only [Array.toList_modify]
                    exact EL.modify hk hv hel j)
                  refine ⟨r, .skip, _, run_unit ?_, trivial, hput⟩
                  rw [e1]
                  unfold Instr.mapUpdate
                  rw [run_b (underlying_run hu w)]
                  simp only
                  rw [run_b hgo]
                  simp only
                  rw [run_b (keyOk_run hk hko false w), run_b g1]
                  simp only
                  rw [run_b hks]
                  exact hso _
            · rename_i hf
              simp only [Option.some.injEq] at hup
              subst hup
              obtain ⟨q, g1, g2⟩ := findKey_run (P := P) hrel hukt hk hel hf
              cases q with
              | some p => simp [RO] at g2
              | none =>
                have hput := obj_put hrel hg rfl hlo hb hq (q := .map (es.push { key := k, val := v, born := c' }) (c' + 1)) (q' := .map (es'.push { key := k', val := v', born := c' }) (c' + 1)) rfl (by
                  simp only [OR]
                  refine ⟨trivial, ?_⟩
                  simp only [Array.toList_push]
                  exact EL.append hel ⟨⟨hk, hv, rfl⟩, trivial⟩)
                refine ⟨r, .skip, _, run_unit ?_, trivial, hput⟩
                rw [e1]
                unfold Instr.mapUpdate
                rw [run_b (underlying_run hu w)]
                simp only
                rw [run_b hgo]
                simp only
                rw [run_b (keyOk_run hk hko false w), run_b g1]
                exact hso _
            · cases hup
        · cases hup
      · cases hup
    · cases hup
  · cases h

end Go.Eng

namespace Go.Eng
open Go.RowKit

variable {P : Program} {G N : Nat}

theorem EL.erase {r : PM} : ∀ {l m : List MapEntry}, EL r l m → ∀ i, EL r (l.eraseIdx i) (m.eraseIdx i)
  | [], [], _, _ => trivial
  | _ :: _, _ :: _, h, 0 => by simp only [EL] at h; exact h.2
  | _ :: _, _ :: _, h, i + 1 => by simp only [EL, List.eraseIdx] at h ⊢; exact ⟨h.1, EL.erase h.2 i⟩
  | [], _ :: _, h, _ => by simp [EL] at h
  | _ :: _, [], h, _ => by simp [EL] at h

theorem toList_erase {α : Type} (a : Array α) (i : Nat) : (a.eraseIdxIfInBounds i).toList = a.toList.eraseIdx i := by
  unfold Array.eraseIdxIfInBounds
  split
  · simp
  · rename_i h
    rw [List.eraseIdx_of_length_le]
    simpa using h

theorem deleteA_sound {r : PM} {H H' : AH} {w : World} {v : Value} {t : TypeId} {ts : Array TypeId} {ty : TypeId} {m k m' k' : Value} (hrel : Rel P G N r H w) (ht : ts[0]? = some t) (hm : VR r m m') (hk : VR r k k') (h : deleteA P t m k H = some (v, H')) :
    ValT P G N r H w v H' (Builtin.delete_ ts ty #[m', k']) := by
  unfold deleteA at h
  split at h
  · rename_i kt et hu
    split at h
    · have e1 : m' = .map none := by
        cases m' <;> first | (simp only [VR] at hm; done) | skip
        rename_i a
        cases a <;> simp only [VR] at hm
        rfl
      cases hko : keyOk P kt k with
      | false => rw [hko, ifb_false] at h; cases h
      | true =>
        rw [hko, ifb_true] at h
        simp only [Option.some.injEq, Prod.mk.injEq] at h
        obtain ⟨rfl, rfl⟩ := h
        refine ⟨r, .tuple #[], w, ?_, trivial, Ex.refl hrel⟩
        rw [e1]
        unfold Builtin.delete_
        rw [ht]
        simp only [List.getElem?_toArray, List.getElem?_cons_zero, List.getElem?_cons_succ]
        rw [run_b (underlying_run hu w)]
        simp only
        rw [run_b (keyOk_run hk hko _ w)]
        rfl
    · rename_i a
      obtain ⟨b, e1, hb⟩ := hm.map_some
      split at h
      · rename_i es c hg
        cases hc : ifb (Nat.ble H.lo a) (keyOk P kt k) false with
        | false => rw [hc, ifb_false] at h; cases h
        | true =>
          rw [hc, ifb_true] at h
          rw [ifb_and, Bool.and_eq_true] at hc
          have hlo := Nat.le_of_ble_eq_true hc.1
          have hko := hc.2
          have hukt : ∃ kind, P.underlying kt = some kind := by
            unfold keyOk at hko
            split at hko
            · exact ⟨_, by assumption⟩
            · obtain ⟨k, h1, _⟩ := simple_inv hko; exact ⟨k, h1⟩
          obtain ⟨kind, hukt⟩ := hukt
          obtain ⟨q, hq, ho⟩ := obj_get hrel hg rfl rfl hb
          cases q <;> simp only [OR] at ho
          rename_i es' c'
          obtain ⟨rfl, hel⟩ := ho
          have hgo : (getObj b).run P w = .ok (.map es' c') w := by
            show (Sem.getObj b Sem.pure).run P w = _
            simp only [Sem.run, hq]
          have hso : ∀ o : Obj, (setObj b o).run P w = .ok () (w.putObj b o) := fun o => by
            show (Sem.setObj b o (Sem.pure ())).run P w = _
            simp only [Sem.run, hq]
            rfl
          have hrun : ∀ (q : Option (Nat × Value)) (es2 : Array MapEntry), (Instr.findKey kt k' es'.toList).run P w = .ok q w → (es2 = match q with | some (i, _) => es'.eraseIdxIfInBounds i | none => es') →
              (Builtin.delete_ ts ty #[m', k']).run P w = .ok (.tuple #[]) (w.putObj b (.map es2 c')) := by
            intro q es2 g1 g2
            rw [e1]
            unfold Builtin.delete_
            rw [ht]
            simp only [List.getElem?_toArray, List.getElem?_cons_zero, List.getElem?_cons_succ]
            rw [run_b (underlying_run hu w)]
            simp only
            rw [run_b hgo]
            simp only
            rw [run_b (keyOk_run hk hko _ w), run_b g1]
            subst g2
            cases q with
            | none => simp only; rw [run_b (hso _)]; rfl
            | some p => obtain ⟨j, u⟩ := p; simp only; rw [run_b (hso _)]; rfl
          split at h
          · rename_i i u hf
            simp only [Option.some.injEq, Prod.mk.injEq] at h
            obtain ⟨rfl, rfl⟩ := h
            obtain ⟨q, g1, g2⟩ := findKey_run (P := P) hrel hukt hk hel hf
            cases q with
            | none => simp [RO] at g2
            | some p =>
              obtain ⟨j, u'⟩ := p
              obtain ⟨rfl, _⟩ := g2
              have hput := obj_put hrel hg rfl hlo hb hq (q := .map (es.eraseIdxIfInBounds j) c') (q' := .map (es'.eraseIdxIfInBounds j) c') rfl (by
                simp only [OR]
                refine ⟨trivial, ?_⟩
                rw [toList_erase, toList_erase]
                exact EL.erase hel j)
              exact ⟨r, .tuple #[], _, hrun _ _ g1 rfl, trivial, hput⟩
          · rename_i hf
            simp only [Option.some.injEq, Prod.mk.injEq] at h
            obtain ⟨rfl, rfl⟩ := h
            obtain ⟨q, g1, g2⟩ := findKey_run (P := P) hrel hukt hk hel hf
            cases q with
            | some p => simp [RO] at g2
            | none =>
              have hput := obj_put hrel hg rfl hlo hb hq (q := .map es c') (q' := .map es' c') rfl (by
                simp only [OR]
                exact ⟨trivial, hel⟩)
              exact ⟨r, .tuple #[], _, hrun _ _ g1 rfl, trivial, hput⟩
          · cases h
      · cases h
    · cases h
  · cases h

theorem arr1 {α : Type} {a : Array α} {x : α} (h : a.toList = [x]) : a = #[x] := by rw [← Array.toList_inj]; exact h
theorem arr2 {α : Type} {a : Array α} {x y : α} (h : a.toList = [x, y]) : a = #[x, y] := by rw [← Array.toList_inj]; exact h

theorem dataA_sound {r : PM} {H H' : AH} {w : World} (hrel : Rel P G N r H w) {x x' : Value} {n : Next} {as : Array TypeId} {ty : TypeId} {cs : Array Bool} (hx : VR r x x') (h : dataA x H = some (n, H')) : OpT P G N r H w n H' (builtin (Builtin.ofNat 20) as ty cs #[x']) := by
  unfold dataA at h
  split at h
  · rename_i a l c
    cases h0 : Nat.beq c 0 with
    | true => rw [h0, ifb_true] at h; cases h
    | false =>
      rw [h0, ifb_false] at h
      simp only [Option.some.injEq, Prod.mk.injEq] at h
      obtain ⟨rfl, rfl⟩ := h
      have hc0 : c ≠ 0 := fun e => by rw [e] at h0; cases h0
      cases x' <;> try (simp only [VR] at hx; done)
      rename_i b l' c'
      cases b with
      | none => simp only [VR] at hx
      | some b =>
        simp only [VR] at hx
        obtain ⟨rfl, hq⟩ := hx
        rcases hq with ⟨h1, _⟩ | ⟨s, z, k1, k2, k3, k4, k5⟩
        · exact absurd h1 hc0
        · refine .here hrel (n' := .value (.pointer (some b))) ?_ ⟨s, z, k1, k2, k3, k4⟩
          show ((if c' ≠ 0 then pure (.pointer (some b)) else _ : Sem Value) >>= _).run P w = _
          rw [if_pos (by omega)]
          rfl
  · cases h
theorem opBuiltin_sound {e e' : Operand → Value} {o : Oper} {c : Call} {b : Builtin} (ho : o.op = .call c) (hc : c.callee = .builtin b) {r : PM} {H H' : AH} {w : World} {n : Next} (hrel : Rel P G N r H w) (he : ∀ x, okOpd G x = true → VR r (e x) (e' x))
    (h : opBuiltin P G e o H c b = some (n, H')) : OpT P G N r H w n H' (execOp e' o) := by
  unfold opBuiltin at h
  split at h
  · split at h
    · rename_i s x st xt ha ht
      cases hok : allOk G [s, x] with
      | false => rw [hok, ifb_false] at h; cases h
      | true =>
        rw [hok, ifb_true] at h
        obtain ⟨v, h1, rfl⟩ := valued_inv h
        rw [exec_builtin ho hc, arr2 ha, arr2 ht]
        have hm : (#[s, x] : Array Operand).map e' = #[e' s, e' x] := by simp
        rw [hm]
        exact ValT.op (appendA_sound hrel (he s (allOk_mem hok s (by simp))) (he x (allOk_mem hok x (by simp))) h1)
    · cases h
  · split at h
    · rename_i d x dt l ha ht
      cases hok : allOk G [d, x] with
      | false => rw [hok, ifb_false] at h; cases h
      | true =>
        rw [hok, ifb_true] at h
        obtain ⟨v, h1, rfl⟩ := valued_inv h
        rw [exec_builtin ho hc, arr2 ha]
        have hm : (#[d, x] : Array Operand).map e' = #[e' d, e' x] := by simp
        rw [hm]
        exact ValT.op (copyA_sound hrel (by rw [← Array.getElem?_toList, ht]; rfl) (he d (allOk_mem hok d (by simp))) (he x (allOk_mem hok x (by simp))) h1)
    · cases h
  · split at h
    · rename_i x t ha ht
      cases hok : okOpd G x with
      | false => rw [hok, ifb_false] at h; cases h
      | true =>
        rw [hok, ifb_true] at h
        obtain ⟨v, h1, rfl⟩ := valued_inv h
        rw [exec_builtin ho hc, arr1 ha, arr1 ht]
        have hm : (#[x] : Array Operand).map e' = #[e' x] := by simp
        rw [hm]
        exact ValT.op (clearA_sound hrel (he x hok) h1)
    · cases h
  · split at h
    · rename_i x t ha ht
      cases hok : okOpd G x with
      | false => rw [hok, ifb_false] at h; cases h
      | true =>
        rw [hok, ifb_true] at h
        exact opLen_sound ho hc ha ht hrel he hok h
    · cases h
  · split at h
    · rename_i m k t l ha ht
      cases hok : allOk G [m, k] with
      | false => rw [hok, ifb_false] at h; cases h
      | true =>
        rw [hok, ifb_true] at h
        obtain ⟨v, h1, rfl⟩ := valued_inv h
        rw [exec_builtin ho hc, arr2 ha]
        have hm : (#[m, k] : Array Operand).map e' = #[e' m, e' k] := by simp
        rw [hm]
        exact ValT.op (deleteA_sound hrel (by rw [← Array.getElem?_toList, ht]; rfl) (he m (allOk_mem hok m (by simp))) (he k (allOk_mem hok k (by simp))) h1)
    · cases h
  · rename_i b0 z1 z2 z3 z4 z5
    clear z1 z2 z3 z4 z5
    cases hb : Nat.beq b.ctorIdx 21 with
    | false =>
      rw [hb, ifb_false] at h
      cases hb2 : Nat.beq b.ctorIdx 20 with
      | false => rw [hb2, ifb_false] at h; exact gen_sound hrel he h
      | true =>
        rw [hb2, ifb_true] at h
        split at h
        · rename_i x t ha ht
          cases hok : okOpd G x with
          | false => rw [hok, ifb_false] at h; cases h
          | true =>
            rw [hok, ifb_true] at h
            obtain rfl : b = Builtin.ofNat 20 := by
              revert hb2
              cases b <;> first | (intro _; rfl) | (intro hh; exact absurd hh (by decide))
            rw [exec_builtin ho hc, arr1 ha]
            have hm : (#[x] : Array Operand).map e' = #[e' x] := by simp
            rw [hm]
            exact dataA_sound hrel (he x hok) h
        · cases h
    | true =>
      rw [hb, ifb_true] at h
      split at h
      · rename_i p k pt t2 ha ht
        cases hok : allOk G [p, k] with
        | false => rw [hok, ifb_false] at h; cases h
        | true =>
          rw [hok, ifb_true] at h
          obtain ⟨v, h1, rfl⟩ := valued_inv h
          obtain rfl : b = Builtin.ofNat 21 := by
            revert hb
            cases b <;> first | (intro _; rfl) | (intro hh; exact absurd hh (by decide))
          obtain ⟨F, hF⟩ := strB
          rw [exec_builtin ho hc, arr2 ha, arr2 ht, hF.is]
          have hm : (#[p, k] : Array Operand).map e' = #[e' p, e' k] := by simp
          rw [hm]
          exact ValT.op (stringA_sound hF hrel (he p (allOk_mem hok p (by simp))) (he k (allOk_mem hok k (by simp))) h1)
      · cases h

theorem opCall_sound {e e' : Operand → Value} {o : Oper} {c : Call} (ho : o.op = .call c) {r : PM} {H H' : AH} {w : World} {n : Next} (hrel : Rel P G N r H w) (he : ∀ x, okOpd G x = true → VR r (e x) (e' x))
    (h : opCall P G e o H c = some (n, H')) : OpT P G N r H w n H' (execOp e' o) := by
  unfold opCall at h
  split at h
  · rename_i f hc; exact opCallV_sound ho hc hrel he h
  · rename_i b hc; exact opBuiltin_sound ho hc hrel he h
  · cases h

end Go.Eng

namespace Go.Eng
open Go.RowKit

variable {P : Program} {G N : Nat}

theorem cond1 {c : Bool} {t : Option (Next × AH)} {q : Next × AH} (h : ifb c t none = some q) : c = true ∧ t = some q := by
  cases c
  · rw [ifb_false] at h; cases h
  · rw [ifb_true] at h; exact ⟨rfl, h⟩

/-- Every operation that is reckoned is what the model does. -/
theorem opS : OpS P G N := by
  intro e e' o H r w n H' hrel he h
  show OpT P G N r H w n H' (execOp e' o)
  have mem : ∀ {l : List Operand}, allOk G l = true → ∀ x, x ∈ l → VR r (e x) (e' x) := fun hl x hx => he x (allOk_mem hl x hx)
  unfold opA at h
  split at h
  · rename_i x ho
    obtain ⟨h1, h2⟩ := cond1 h
    simp only [Option.some.injEq, Prod.mk.injEq] at h2
    obtain ⟨rfl, rfl⟩ := h2
    refine .here hrel (n' := .value (e' x)) ?_ (he x h1)
    unfold execOp
    simp only [ho]
    rfl
  · rename_i x ho
    obtain ⟨h1, h2⟩ := cond1 h
    simp only [Option.some.injEq, Prod.mk.injEq] at h2
    obtain ⟨rfl, rfl⟩ := h2
    refine .here hrel (n' := .value (e' x)) ?_ (he x h1)
    unfold execOp
    simp only [ho]
    rfl
  · rename_i c a b ho
    obtain ⟨h1, h2⟩ := cond1 h
    have hex : execOp e' o = (do pure (.value (if ← asBool (e' c) then e' a else e' b)) : Sem Next) := by unfold execOp; simp only [ho]
    rw [hex]
    exact opPick_sound hrel (mem h1 c (by simp)) (mem h1 a (by simp)) (mem h1 b (by simp)) h2
  · rename_i op t x y z ho
    obtain ⟨h1, h2⟩ := cond1 h
    exact opBin_sound ho hrel he (allOk_mem h1 x (by simp)) (allOk_mem h1 y (by simp)) h2
  · rename_i t a ho
    obtain ⟨h1, h2⟩ := cond1 h
    have hex : execOp e' o = (do pure (Next.value (← Instr.loadAt t (e' a))) : Sem Next) := by unfold execOp; simp only [ho]
    rw [hex]
    exact opLoad_sound hrel (he a h1) h2
  · rename_i t a x ho
    obtain ⟨h1, h2⟩ := cond1 h
    have hex : execOp e' o = (do Instr.storeAt t (e' a) (e' x); pure Next.skip : Sem Next) := by unfold execOp; simp only [ho]
    rw [hex]
    exact opStore_sound hrel (mem h1 a (by simp)) (mem h1 x (by simp)) h2
  · rename_i s x i ho
    obtain ⟨h1, h2⟩ := cond1 h
    exact opField_sound ho hrel he h1 h2
  · rename_i t x i ho
    obtain ⟨h1, h2⟩ := cond1 h
    exact opIndex_sound ho hrel he (allOk_mem h1 x (by simp)) (allOk_mem h1 i (by simp)) h2
  · rename_i x i ho
    obtain ⟨h1, h2⟩ := cond1 h
    have hex : execOp e' o = (do pure (Next.value (← Instr.extract (e' x) i)) : Sem Next) := by unfold execOp; simp only [ho]
    rw [hex]
    exact opExtract_sound hrel (he x h1) h2
  · rename_i x ho
    obtain ⟨h1, h2⟩ := cond1 h
    exact opNil_sound ho hrel he h1 h2
  · rename_i t ho
    exact opFresh_sound hrel he (by rw [ho]; exact h)
  · rename_i t x ho
    exact opFresh_sound hrel he (by rw [ho]; exact h)
  · rename_i t k ps ho
    exact opFresh_sound hrel he (by rw [ho]; exact h)
  · rename_i c ho
    exact opCall_sound ho hrel he h
  · rename_i src dst x ho
    obtain ⟨h1, h2⟩ := cond1 h
    exact opConv_sound ho hrel he h1 h2
  · rename_i t x lo hi mx ho
    obtain ⟨h1, h2⟩ := cond1 h
    exact opSlice_sound ho hrel he h1 h2
  · rename_i t x i ho
    obtain ⟨h1, h2⟩ := cond1 h
    exact opIx_sound ho hrel he (allOk_mem h1 x (by simp)) (allOk_mem h1 i (by simp)) h2
  · rename_i t m k ok ho
    obtain ⟨h1, h2⟩ := cond1 h
    have hex : execOp e' o = (do pure (Next.value (← Instr.lookup t (e' m) (e' k) ok)) : Sem Next) := by unfold execOp; simp only [ho]
    rw [hex]
    exact opLookup_sound hrel (mem h1 m (by simp)) (mem h1 k (by simp)) h2
  · rename_i t m k v ho
    obtain ⟨h1, h2⟩ := cond1 h
    have hex : execOp e' o = (do Instr.mapUpdate t (e' m) (e' k) (e' v); pure Next.skip : Sem Next) := by unfold execOp; simp only [ho]
    rw [hex]
    exact opUpdate_sound hrel (mem h1 m (by simp)) (mem h1 k (by simp)) (mem h1 v (by simp)) h2
  · exact gen_sound hrel he h

end Go.Eng

namespace Go.Eng
open Go.RowKit

variable {P : Program} {G N : Nat}

/-- What an operation that asks no memory must give. -/
def QT (P : Program) (r : PM) (n : Next) (t : Sem Next) : Prop := ∃ n', NR r n n' ∧ ∀ w : World, t.run P w = .ok n' w

theorem QT.here {r : PM} {n n' : Next} {t : Sem Next} (h : ∀ w : World, t.run P w = .ok n' w) (hn : NR r n n') : QT P r n t := ⟨n', hn, h⟩
theorem QT.val {r : PM} {v v' : Value} {t : Sem Value} (h : ∀ w : World, t.run P w = .ok v' w) (hv : VR r v v') : QT P r (.value v) (do pure (Next.value (← t))) := ⟨.value v', hv, fun w => run_val (h w)⟩

theorem ar_next {α : Type} (t : Sem α) : ∀ (H H' : AH) (a : α), ar P t H = some (a, H') → H.next ≤ H'.next := by
  induction t with
  | pure a => intro H H' b h; simp only [ar, Option.some.injEq, Prod.mk.injEq] at h; rw [h.2]; exact Nat.le_refl _
  | load m a k ih =>
    intro H H' b h
    simp only [ar] at h
    split at h
    · exact ih _ H H' b h
    · cases h
  | store m a v k ih =>
    intro H H' b h
    simp only [ar] at h
    split at h
    · rename_i H1 _ hs
      have : H1.next = H.next := by
        unfold AH.setCell at hs
        split at hs
        · cases hs
        · split at hs
          · split at hs
            · split at hs
              · cases hs
              · simp only [Option.some.injEq] at hs; rw [← hs]; rfl
            · cases hs
          · cases hs
      rw [← this]
      exact ih H1 H' b h
    · cases h
  | new o k ih =>
    intro H H' b h
    simp only [ar] at h
    split at h
    · have := ih _ (H.push o) H' b h
      exact Nat.le_trans (Nat.le_succ _) this
    · cases h
  | getObj i k ih =>
    intro H H' b h
    simp only [ar] at h
    split at h
    · cases h
    · cases h
    · exact ih _ H H' b h
    · cases h
  | setObj i o k ih =>
    intro H H' b h
    simp only [ar] at h
    split at h
    · cases h
    · split at h
      · cases h
      · cases h
      · exact ih (H.set i o) H' b h
      · cases h
  | program k ih => intro H H' b h; exact ih P H H' b h
  | mark m k ih => intro H H' b h; exact ih H H' b h
  | _ => intro H H' b h; simp [ar] at h

theorem get_none {H : AH} (h0 : H.next = 0) (i : Nat) : H.get i = none := by
  rw [AH.get_eq, if_neg (by omega)]

theorem ar_quiet {α β : Type} {R : PM → α → β → Prop} {r : PM} (t : Sem α) : ∀ (t' : Sem β) (H H' : AH) (a : α), TR P R r t t' → H.next = 0 → H'.next = 0 → ar P t H = some (a, H') → ∃ b, R r a b ∧ ∀ w : World, t'.run P w = .ok b w := by
  induction t with
  | pure a0 =>
    intro t' H H' a ht _ _ h
    cases t' <;> simp only [TR] at ht
    simp only [ar, Option.some.injEq, Prod.mk.injEq] at h
    obtain ⟨rfl, _⟩ := h
    exact ⟨_, ht, fun w => rfl⟩
  | load m ad k ih =>
    intro t' H H' a ht h0 h1 h
    simp only [ar] at h
    split at h
    · rename_i v hc
      unfold AH.cell at hc
      split at hc
      · cases hc
      · rw [get_none h0] at hc; cases hc
    · cases h
  | store m ad v k ih =>
    intro t' H H' a ht h0 h1 h
    simp only [ar] at h
    split at h
    · rename_i H1 _ hs
      unfold AH.setCell at hs
      split at hs
      · cases hs
      · rw [get_none h0] at hs; cases hs
    · cases h
  | new o k ih =>
    intro t' H H' a ht h0 h1 h
    simp only [ar] at h
    split at h
    · have := ar_next _ _ _ _ h
      have h2 : (H.push o).next = H.next + 1 := rfl
      omega
    · cases h
  | getObj i k ih =>
    intro t' H H' a ht h0 h1 h
    simp only [ar, get_none h0] at h
    cases h
  | setObj i o k ih =>
    intro t' H H' a ht h0 h1 h
    simp only [ar, get_none h0] at h
    split at h <;> cases h
  | program k ih =>
    intro t' H H' a ht h0 h1 h
    cases t' <;> simp only [TR] at ht
    rename_i k'
    exact ih P (k' P) H H' a ht h0 h1 h
  | mark m k ih =>
    intro t' H H' a ht h0 h1 h
    cases t' <;> simp only [TR] at ht
    rename_i m' k'
    exact ih k' H H' a ht h0 h1 h
  | _ => intro t' H H' a ht h0 h1 h; simp [ar] at h

theorem gen_q {e e' : Operand → Value} {o : Oper} {H H' : AH} {r : PM} {n : Next} (he : ∀ x, x ∈ o.op.operands → okOpd G x = true → VR r (e x) (e' x)) (hq : quietOp o.op = true) (h0 : H.next = 0) (h1 : H'.next = 0) (h : genOk P G e o H = some (n, H')) : QT P r n (execOp e' o) := by
  unfold genOk at h
  cases hc : ifb (notSel o.op) (allOk G o.op.operands.toList) false with
  | false => rw [hc, ifb_false] at h; cases h
  | true =>
    rw [hc, ifb_true] at h
    rw [ifb_and, Bool.and_eq_true] at hc
    have hx : ∀ x, x ∈ o.op.operands → VR r (e x) (e' x) := fun x hm => he x hm (allOk_mem hc.2 x (by simpa using hm))
    have tm : ifb (tame P o.op) (ar P (execOp e o) H) none = some (n, H') → QT P r n (execOp e' o) := by
      intro h
      cases ht : tame P o.op with
      | false => rw [ht, ifb_false] at h; cases h
      | true =>
        rw [ht, ifb_true] at h
        have fin : ∀ {t t' : Sem Value}, TR P VRR r t t' → (execOp e o = do pure (Next.value (← t))) → (execOp e' o = do pure (Next.value (← t'))) → QT P r n (execOp e' o) := by
          intro t t' hs e1 e2
          rw [e1] at h
          rw [e2]
          exact ar_quiet _ _ H H' n (TR.val hs) h0 h1 h
        unfold tame at ht
        split at ht
        · rename_i t x i hop
          exact fin (TR.field (t := t) (i := i) (hx x (by rw [hop]; simp [Op.operands]))) (by unfold execOp; simp only [hop]) (by unfold execOp; simp only [hop])
        · rename_i fn first cap hop
          split at ht
          · rename_i g
            refine fin (TR.makeFunc (g := g) (a := first.map e) (b := cap.map e) (a' := first.map e') (b' := cap.map e') ?_ ?_) (by unfold execOp; simp only [hop]) (by unfold execOp; simp only [hop])
            · rw [Array.toList_map, Array.toList_map]
              exact VL.of_map _ fun x hm => hx x (by rw [hop]; simp only [Op.operands]; simp; exact .inl (by simpa using hm))
            · rw [Array.toList_map, Array.toList_map]
              exact VL.of_map _ fun x hm => hx x (by rw [hop]; simp only [Op.operands]; simp; exact .inr (by simpa using hm))
          · cases ht
        · rename_i t ps hop
          refine fin (TR.build (t := t) (ps := ps.map fun (i, x) => (i, e x)) (qs := ps.map fun (i, x) => (i, e' x)) ht ?_) (by unfold execOp; simp only [hop]) (by unfold execOp; simp only [hop])
          rw [Array.toList_map, Array.toList_map]
          refine PL.of_map ps.toList fun p hp => hx p.2 ?_
          rw [hop]
          simp only [Op.operands]
          simp
          exact ⟨p.1, by simpa using hp⟩
        · rename_i hop
          rw [hop] at hq
          simp [quietOp] at hq
        · rename_i hop
          rw [hop] at hq
          simp [quietOp] at hq
        · cases ht
    unfold genA at h
    cases hf : ifb (addrs o.op) false (allFlat e o.op.operands.toList) with
    | false => rw [hf, ifb_false] at h; exact tm h
    | true =>
      rw [hf, ifb_true] at h
      have hall : allFlat e o.op.operands.toList = true := by
        cases ha : addrs o.op with
        | true => rw [ha, ifb_true] at hf; cases hf
        | false => rw [ha, ifb_false] at hf; exact hf
      have heq : execOp e o = execOp e' o := execOp_congr o (notSel_ne hc.1) fun x hm => (flat_eq (allFlat_mem hall x (by simpa using hm)) (hx x hm)).symm
      split at h
      · rename_i m hp
        cases hn : flatNext m with
        | false => rw [hn, ifb_false] at h; cases h
        | true =>
          rw [hn, ifb_true] at h
          simp only [Option.some.injEq, Prod.mk.injEq] at h
          obtain ⟨rfl, rfl⟩ := h
          rw [heq] at hp
          exact .here (fun w => pr_run _ _ w hp) (flatNext_refl r hn)
      · exact tm h

theorem opPick_q {r : PM} {H H' : AH} {n : Next} {c a b c' a' b' : Value} (hc : VR r c c') (ha : VR r a a') (hb : VR r b b') (h : opPick c a b H = some (n, H')) :
    QT P r n (do pure (.value (if ← asBool c' then a' else b'))) := by
  unfold opPick at h
  split at h
  · rename_i t
    simp only [Option.some.injEq, Prod.mk.injEq] at h
    obtain ⟨rfl, rfl⟩ := h
    rw [hc.bool_inv]
    refine QT.here (fun w => rfl) ?_
    cases t
    · exact hb
    · exact ha
  · cases h


theorem opExtract_q {r : PM} {H H' : AH} {n : Next} {v v' : Value} {i : Nat} (hv : VR r v v') (h : opExtract v i H = some (n, H')) :
    QT P r n (do pure (Next.value (← Instr.extract v' i))) := by
  unfold opExtract at h
  split at h
  · rename_i l
    split at h
    · rename_i u hu
      simp only [Option.some.injEq, Prod.mk.injEq] at h
      obtain ⟨rfl, rfl⟩ := h
      cases v' <;> try (simp only [VR] at hv; done)
      rename_i l'
      obtain ⟨l'⟩ := l'
      simp only [VR] at hv
      obtain ⟨u', e1, e2⟩ := VL.get hv hu
      refine QT.val (v' := u') (fun w => ?_) e2
      unfold Instr.extract
      simp only [List.getElem?_toArray, e1]
      rfl
    · cases h
  · cases h


theorem opNil_q {e e' : Operand → Value} {o : Oper} {x : Operand} (ho : o.op = .nilCheck x) {r : PM} {H H' : AH} {n : Next} (he : ∀ x, x ∈ o.op.operands → okOpd G x = true → VR r (e x) (e' x)) (hq : quietOp o.op = true) (n0 : H.next = 0) (n1 : H'.next = 0) (hx : okOpd G x = true)
    (h : opNil P G e o H (e x) = some (n, H')) : QT P r n (execOp e' o) := by
  have hv := he x (by rw [ho]; simp [Op.operands]) hx
  unfold opNil at h
  split at h
  · rename_i a hea
    rw [hea] at hv
    split at h
    · rename_i p
      simp only [Option.some.injEq, Prod.mk.injEq] at h
      obtain ⟨rfl, rfl⟩ := h
      obtain ⟨b, e1, e2⟩ := hv.pointer_inv
      refine QT.here (n' := .value (.pointer (some b))) (fun w => ?_) (by simp only [NR, VR]; exact e2)
      unfold execOp
      simp only [ho, e1]
      rfl
    · cases h
  · exact gen_q he hq n0 n1 h


theorem opField_q {e e' : Operand → Value} {o : Oper} {s : TypeId} {x : Operand} {i : Nat} (ho : o.op = .fieldAddr s x i) {r : PM} {H H' : AH} {n : Next} (he : ∀ x, x ∈ o.op.operands → okOpd G x = true → VR r (e x) (e' x)) (hq : quietOp o.op = true) (n0 : H.next = 0) (n1 : H'.next = 0) (hx : okOpd G x = true)
    (h : opField P G e o H s i (e x) = some (n, H')) : QT P r n (execOp e' o) := by
  have hv := he x (by rw [ho]; simp [Op.operands]) hx
  unfold opField at h
  split at h
  · rename_i a hea
    rw [hea] at hv
    split at h
    · rename_i p
      split at h
      · rename_i off hf
        simp only [Option.some.injEq, Prod.mk.injEq] at h
        obtain ⟨rfl, rfl⟩ := h
        obtain ⟨b, e1, e2⟩ := hv.pointer_inv
        unfold fieldOff at hf
        split at hf
        · rename_i fs hu
          split at hf
          · rename_i f hfi
            cases hz : Nat.beq (esz P f.type) 0 with
            | true => rw [hz, ifb_true] at hf; cases hf
            | false =>
              rw [hz, ifb_false] at hf
              simp only [Option.some.injEq] at hf
              subst hf
              have hz' : esz P f.type ≠ 0 := fun h0 => by rw [h0] at hz; simp at hz
              unfold esz at hz'
              cases hinf : P.info? f.type with
              | none => rw [hinf] at hz'; exact absurd rfl hz'
              | some inf =>
                rw [hinf] at hz'
                have hex : execOp e' o = (do pure (Next.value (← Instr.fieldAt s (e' x) i)) : Sem Next) := by unfold execOp; simp only [ho]
                rw [hex, e1]
                refine QT.val (v' := .pointer (some (b.add f.offset))) (fun w => ?_) (by simp only [VR]; exact e2.add _)
                unfold Instr.fieldAt
                rw [run_b (underlying_run hu w)]
                simp only [hfi]
                show ((fieldPlace b f) >>= _).run P w = _
                have hpl : (fieldPlace b f).run P w = .ok (b.add f.offset) w := by
                  unfold fieldPlace
                  rw [run_b (sizeOf_run hinf w), if_neg (by simpa using hz')]
                  rfl
                rw [run_b hpl]
                rfl
          · cases hf
        · cases hf
      · exact gen_q he hq n0 n1 h
    · cases h
  · cases h


theorem opIndex_q {e e' : Operand → Value} {o : Oper} {t : TypeId} {x ix : Operand} (ho : o.op = .indexAddr t x ix) {r : PM} {H H' : AH} {n : Next} (he : ∀ x, x ∈ o.op.operands → okOpd G x = true → VR r (e x) (e' x)) (hq : quietOp o.op = true) (n0 : H.next = 0) (n1 : H'.next = 0) (hx : okOpd G x = true) (hi : okOpd G ix = true)
    (h : opIndex P G e o H t (e x) (e ix) = some (n, H')) : QT P r n (execOp e' o) := by
  have hv := he x (by rw [ho]; simp [Op.operands]) hx
  have hj := he ix (by rw [ho]; simp [Op.operands]) hi
  unfold opIndex at h
  split at h
  · rename_i sz hsz
    split at h
    · rename_i a len cap k i hea hei
      rw [hea] at hv
      rw [hei] at hj
      cases hc : ifb (Nat.blt i len) (Nat.blt 0 cap) false with
      | false => rw [hc, ifb_false] at h; cases h
      | true =>
        rw [hc, ifb_true] at h
        rw [ifb_and, Bool.and_eq_true] at hc
        simp only [Option.some.injEq, Prod.mk.injEq] at h
        obtain ⟨rfl, rfl⟩ := h
        have hlt : i < len := by simpa [Nat.blt_eq] using hc.1
        have hcap : 0 < cap := by simpa [Nat.blt_eq] using hc.2
        obtain ⟨b, s, q, e1, e2, e3, e4, e5⟩ := hv.slice_some hcap
        have e6 := hj.int_inv
        unfold elemSize at hsz
        split at hsz
        · rename_i el hu
          simp only [Option.map_eq_some_iff] at hsz
          obtain ⟨inf, hinf, rfl⟩ := hsz
          have hex : execOp e' o = (do pure (Next.value (← Instr.indexAt t (e' x) (e' ix))) : Sem Next) := by unfold execOp; simp only [ho]
          rw [hex, e1, e6]
          refine QT.val (v' := .pointer (some (b.add (i * inf.size)))) (fun w => ?_) (by simp only [VR]; exact AR.add ⟨s, q, e2, e3, e4, e5⟩ _)
          unfold Instr.indexAt
          rw [run_b (asIntOf_run _ _ w)]
          simp only
          rw [run_b (underlying_run hu w)]
          simp only
          rw [run_b (a := (some b, len, el)) (w1 := w) rfl]
          simp only
          rw [run_b (underlying_run hu w)]
          simp only
          rw [if_pos ⟨Int.natCast_nonneg i, by simpa using hlt⟩, run_b (sizeOf_run hinf w)]
          rfl
        · cases hsz
    · cases h
  · split at h
    · rename_i n sz hsz
      split at h
      · rename_i a k i hea hei
        rw [hea] at hv
        rw [hei] at hj
        cases hc : Nat.blt i n with
        | false => rw [hc, ifb_false] at h; cases h
        | true =>
          rw [hc, ifb_true] at h
          simp only [Option.some.injEq, Prod.mk.injEq] at h
          obtain ⟨rfl, rfl⟩ := h
          have hlt : i < n := by simpa [Nat.blt_eq] using hc
          obtain ⟨b, e1, e2⟩ := hv.pointer_inv
          have e6 := hj.int_inv
          unfold arrElem at hsz
          split at hsz
          · rename_i len el hu
            simp only [Option.map_eq_some_iff, Prod.mk.injEq] at hsz
            obtain ⟨inf, hinf, rfl, rfl⟩ := hsz
            have hex : execOp e' o = (do pure (Next.value (← Instr.indexAt t (e' x) (e' ix))) : Sem Next) := by unfold execOp; simp only [ho]
            rw [hex, e1, e6]
            refine QT.val (v' := .pointer (some (b.add (i * inf.size)))) (fun w => ?_) (by simp only [VR]; exact e2.add _)
            unfold Instr.indexAt
            rw [run_b (asIntOf_run _ _ w)]
            simp only
            rw [run_b (underlying_run hu w)]
            simp only
            rw [run_b (a := b) (w1 := w) rfl]
            rw [run_b (a := (some b, len, el)) (w1 := w) rfl]
            simp only
            rw [run_b (underlying_run hu w)]
            simp only
            rw [if_pos ⟨Int.natCast_nonneg i, by simpa using hlt⟩, run_b (sizeOf_run hinf w)]
            rfl
          · cases hsz
      · cases h
    · exact gen_q he hq n0 n1 h


theorem opLen_q {e e' : Operand → Value} {o : Oper} {c : Call} (ho : o.op = .call c) (hc : c.callee = .builtin .len) {x : Operand} {t : TypeId} (ha : c.args.toList = [x]) (ht : c.argTypes.toList = [t]) {r : PM} {H H' : AH} {n : Next}
    (he : ∀ x, x ∈ o.op.operands → okOpd G x = true → VR r (e x) (e' x)) (hq : quietOp o.op = true) (n0 : H.next = 0) (n1 : H'.next = 0) (hx : okOpd G x = true) (h : opLen P G e o H t (e x) = some (n, H')) : QT P r n (execOp e' o) := by
  have hv := he x (by rw [ho]; show x ∈ c.operands; simp [Call.operands, arr1 ha]) hx
  have ha' : c.args.map e' = #[e' x] := by
    have : c.args = #[x] := by rw [← Array.toList_inj]; exact ha
    rw [this]; simp
  have ht' : c.argTypes = #[t] := by rw [← Array.toList_inj]; exact ht
  unfold opLen at h
  split at h
  · rename_i s hs
    rw [hs] at hv
    cases hk : Nat.beq (lenKind P t) 1 with
    | false => rw [hk, ifb_false] at h; cases h
    | true =>
      rw [hk, ifb_true] at h
      simp only [Option.some.injEq, Prod.mk.injEq] at h
      obtain ⟨rfl, rfl⟩ := h
      have hu : P.underlying t = some .string := by
        unfold lenKind at hk
        split at hk <;> first | assumption | (simp at hk)
      rw [exec_builtin ho hc, ha', ht', hv.string_inv]
      refine QT.val (t := Builtin.len_ #[t] o.type #[.string s]) (v' := .int .i64 (.ofNat s.size)) (fun w => ?_) (flat_refl r _ rfl)
      unfold Builtin.len_
      simp only [List.getElem?_toArray, List.getElem?_cons_zero]
      rw [run_b (underlying_run hu w)]
      rfl
  · rename_i a l cp hs
    rw [hs] at hv
    cases hk : Nat.beq (lenKind P t) 2 with
    | false => rw [hk, ifb_false] at h; cases h
    | true =>
      rw [hk, ifb_true] at h
      simp only [Option.some.injEq, Prod.mk.injEq] at h
      obtain ⟨rfl, rfl⟩ := h
      have hu : ∃ el, P.underlying t = some (.slice el) := by
        unfold lenKind at hk
        split at hk <;> first | (exact ⟨_, by assumption⟩) | (simp at hk)
      obtain ⟨el, hu⟩ := hu
      obtain ⟨b, c', e1, _⟩ := hv.slice_inv
      rw [exec_builtin ho hc, ha', ht', e1]
      refine QT.val (t := Builtin.len_ #[t] o.type #[.slice b l c']) (v' := .int .i64 (.ofNat l)) (fun w => ?_) (flat_refl r _ rfl)
      unfold Builtin.len_
      simp only [List.getElem?_toArray, List.getElem?_cons_zero]
      rw [run_b (underlying_run hu w)]
      rfl
  · rename_i i hs
    rw [get_none n0] at h
    cases h
  · exact gen_q he hq n0 n1 h


theorem opBin_q {e e' : Operand → Value} {o : Oper} {op : BinOp} {t : TypeId} {x y : Operand} {z : TypeId} (ho : o.op = .binOp op t x y z) {r : PM} {H H' : AH} {n : Next}
    (he : ∀ x, x ∈ o.op.operands → okOpd G x = true → VR r (e x) (e' x)) (hq : quietOp o.op = true) (n0 : H.next = 0) (n1 : H'.next = 0) (hx : okOpd G x = true) (hy : okOpd G y = true) (h : opBin P G e o H op t x y = some (n, H')) : QT P r n (execOp e' o) := by
  have h1 := he x (by rw [ho]; simp [Op.operands]) hx
  have h2 := he y (by rw [ho]; simp [Op.operands]) hy
  have hex : execOp e' o = (do pure (Next.value (← (do eqGuard op t x y (e' x) (e' y); binOp op t (e' x) (e' y)))) : Sem Next) := by unfold execOp; simp only [ho]
  unfold opBin at h
  split at h
  · rename_i v hb
    simp only [Option.some.injEq, Prod.mk.injEq] at h
    obtain ⟨rfl, rfl⟩ := h
    rw [hex]
    unfold bin2 at hb
    split at hb
    · rename_i k a hxa
      rw [hxa] at h1
      split at hb
      · rename_i k' b hyb
        rw [hyb] at h2
        cases hk : kEq k k' with
        | false => rw [hk, ifb_false] at hb; cases hb
        | true =>
          rw [hk, ifb_true] at hb
          have : k = k' := by unfold kEq at hk; simpa using hk
          subst this
          rw [h1.int_inv, h2.int_inv]
          refine QT.val (v' := v) (fun w => ?_) ?_
          · rw [run_b (guard_run (.inr (.inl ⟨_, _, rfl⟩)) w)]
            exact binI_run hb w
          · unfold binI at hb
            split at hb <;> first | (cases hb; done) | (simp only [Option.some.injEq] at hb; subst hb; exact flat_refl r _ rfl)
      · cases hb
    · rename_i a hxa
      rw [hxa] at h1
      split at hb
      · rename_i b hyb
        rw [hyb] at h2
        rw [h1.string_inv, h2.string_inv]
        refine QT.val (v' := v) (fun w => ?_) ?_
        · rw [run_b (guard_run (.inr (.inr ⟨_, rfl⟩)) w)]
          exact binS_run hb w
        · unfold binS at hb
          split at hb <;> first | (cases hb; done) | (simp only [Option.some.injEq] at hb; subst hb; exact flat_refl r _ rfl)
      · cases hb
    · cases hb
  · cases hf : ifb (flat (e x)) (flat (e y)) false with
    | true => rw [hf, ifb_true] at h; exact gen_q he hq n0 n1 h
    | false =>
      rw [hf, ifb_false] at h
      cases hk : Nat.beq (nilKind P t) (valKind (e x)) with
      | false => rw [hk, ifb_false] at h; cases h
      | true =>
        rw [hk, ifb_true] at h
        replace hk := Nat.eq_of_beq_eq_true hk
        unfold opLook at h
        split at h
        · rename_i v hv
          simp only [Option.some.injEq, Prod.mk.injEq] at h
          obtain ⟨rfl, rfl⟩ := h
          unfold binN at hv
          split at hv
          · rename_i q hq
            have k9 := nilEq_kind hq
            have hrun := fun w => nilEq_run hk h1 h2 hq w
            have k9' : valKind (e' x) ≠ 9 := by rw [valKind_rel h1 k9]; exact k9
            rw [hex]
            split at hv <;> first | (cases hv; done) | skip
            · simp only [Option.some.injEq] at hv
              subst hv
              refine QT.val (v' := .bool q) (fun w => ?_) (flat_refl r _ rfl)
              rw [run_b (guard_run (.inl k9') w)]
              have : binOp .eql t (e' x) (e' y) = (do pure (.bool (← Op.equal t (e' x) (e' y))) : Sem Value) := by
                cases hxx : e' x <;> first | rfl | (rw [hxx] at k9'; exact absurd rfl k9')
              rw [this, run_b (hrun w)]
              rfl
            · simp only [Option.some.injEq] at hv
              subst hv
              refine QT.val (v' := .bool (!q)) (fun w => ?_) (flat_refl r _ rfl)
              rw [run_b (guard_run (.inl k9') w)]
              have : binOp .neq t (e' x) (e' y) = (do pure (.bool (!(← Op.equal t (e' x) (e' y)))) : Sem Value) := by
                cases hxx : e' x <;> first | rfl | (rw [hxx] at k9'; exact absurd rfl k9')
              rw [this, run_b (hrun w)]
              rfl
          · cases hv
        · cases h


theorem opIx_q {e e' : Operand → Value} {o : Oper} {t : TypeId} {x ix : Operand} (ho : o.op = .index t x ix) {r : PM} {H H' : AH} {n : Next} (he : ∀ x, x ∈ o.op.operands → okOpd G x = true → VR r (e x) (e' x)) (hq : quietOp o.op = true) (n0 : H.next = 0) (n1 : H'.next = 0) (hx : okOpd G x = true) (hi : okOpd G ix = true)
    (h : opIx P G e o H t (e x) (e ix) = some (n, H')) : QT P r n (execOp e' o) := by
  have hv := he x (by rw [ho]; simp [Op.operands]) hx
  have hj := he ix (by rw [ho]; simp [Op.operands]) hi
  unfold opIx at h
  split at h
  · rename_i s hs
    rw [hs] at hv
    split at h
    · rename_i k i hk
      rw [hk] at hj
      cases hc : isStr P t with
      | false => rw [hc, ifb_false] at h; cases h
      | true =>
        rw [hc, ifb_true] at h
        split at h
        · rename_i b hb
          simp only [Option.some.injEq, Prod.mk.injEq] at h
          obtain ⟨rfl, rfl⟩ := h
          have hu : P.underlying t = some .string := by
            unfold isStr at hc
            split at hc <;> first | assumption | cases hc
          have hex : execOp e' o = (do pure (Next.value (← Instr.index t (e' x) (e' ix))) : Sem Next) := by unfold execOp; simp only [ho]
          rw [hex, hv.string_inv, hj.int_inv]
          refine QT.val (v' := .int .u8 (.ofNat b.toNat)) (fun w => ?_) (flat_refl r _ rfl)
          unfold Instr.index
          rw [run_b (asIntOf_run _ _ w)]
          simp only
          rw [run_b (underlying_run hu w)]
          simp only
          rw [if_pos (show (0:Int) ≤ Int.ofNat i from Int.natCast_nonneg i)]
          have : s[(Int.ofNat i).toNat]? = some b := by rw [bytes_get]; exact hb
          rw [this]
          rfl
        · cases h
    · cases h
  · exact gen_q he hq n0 n1 h


theorem opSlice_q {e e' : Operand → Value} {o : Oper} {t : TypeId} {x : Operand} {lo hi mx : Option Operand} (ho : o.op = .slice t x lo hi mx) {r : PM} {H H' : AH} {n : Next} (he : ∀ x, x ∈ o.op.operands → okOpd G x = true → VR r (e x) (e' x)) (hq : quietOp o.op = true) (n0 : H.next = 0) (n1 : H'.next = 0)
    (hok : allOk G (x :: (lo.toList ++ (hi.toList ++ mx.toList))) = true) (h : opSlice P G e o H t (e x) lo hi mx = some (n, H')) : QT P r n (execOp e' o) := by
  have hv := he x (by rw [ho]; simp [Op.operands]) (allOk_mem hok x (by simp))
  have hlo := opt_rel (e := e) (e' := e') (r := r) (o := lo) fun y hy => he y (by rw [ho]; simp [Op.operands, hy]) (allOk_mem hok y (by simp [hy]))
  have hhi := opt_rel (e := e) (e' := e') (r := r) (o := hi) fun y hy => he y (by rw [ho]; simp [Op.operands, hy]) (allOk_mem hok y (by simp [hy]))
  have hex : execOp e' o = (do pure (Next.value (← Instr.sliceAt t (e' x) (lo.map e') (hi.map e') (mx.map e'))) : Sem Next) := by unfold execOp; simp only [ho]
  unfold opSlice at h
  split at h
  · rename_i s hs
    rw [hs] at hv
    split at h
    · cases hc : isStr P t with
      | false => rw [hc, ifb_false] at h; cases h
      | true =>
        rw [hc, ifb_true] at h
        have hu : P.underlying t = some .string := by
          unfold isStr at hc
          split at hc <;> first | assumption | cases hc
        unfold opLook at h
        split at h
        · rename_i v hsv
          simp only [Option.some.injEq, Prod.mk.injEq] at h
          obtain ⟨rfl, rfl⟩ := h
          rw [hex, hv.string_inv]
          unfold sliceS at hsv
          split at hsv
          · rename_i l
            split at hsv
            · rename_i hb hhb
              split at hsv
              · rename_i a hab
                simp only [Option.some.injEq] at hsv
                subst hsv
                refine QT.val (v' := .string (ByteArray.extract ⟨⟨l⟩⟩ a hb)) (fun w => slice_str_run hu ?_ ?_ w) (by rw [cut_eq]; exact flat_refl r _ rfl)
                · split at hhb
                  · rename_i h0
                    simp only [Option.some.injEq] at hhb
                    exact .inl ⟨hhi.1 h0, by rw [← hhb]; rfl⟩
                  · rename_i k q h0
                    cases hq : Nat.ble q l.length with
                    | false => rw [hq, ifb_false] at hhb; cases hhb
                    | true =>
                      rw [hq, ifb_true] at hhb
                      simp only [Option.some.injEq] at hhb
                      subst hhb
                      exact .inr ⟨k, hhi.2 _ _ h0, Nat.le_of_ble_eq_true hq⟩
                  · cases hhb
                · split at hab
                  · rename_i h0
                    simp only [Option.some.injEq] at hab
                    exact .inl ⟨hlo.1 h0, hab.symm⟩
                  · rename_i k q h0
                    cases hq : Nat.ble q hb with
                    | false => rw [hq, ifb_false] at hab; cases hab
                    | true =>
                      rw [hq, ifb_true] at hab
                      simp only [Option.some.injEq] at hab
                      subst hab
                      exact .inr ⟨k, hlo.2 _ _ h0, Nat.le_of_ble_eq_true hq⟩
                  · cases hab
              · cases hsv
            · cases hsv
        · cases h
    · cases h
  · rename_i a len cap hs
    rw [hs] at hv
    split at h
    · rename_i m
      have hm := he m (by rw [ho]; simp [Op.operands]) (allOk_mem hok m (by simp))
      split at h
      · rename_i sz hsz
        split at h
        · rename_i p
          unfold elemSize at hsz
          split at hsz
          · rename_i el hu
            simp only [Option.map_eq_some_iff] at hsz
            obtain ⟨inf, hinf, rfl⟩ := hsz
            unfold opLook at h
            split at h
            · rename_i v hsv
              simp only [Option.some.injEq, Prod.mk.injEq] at h
              obtain ⟨rfl, rfl⟩ := h
              rw [hex]
              unfold slice3 at hsv
              split at hsv
              · rename_i k hmk
                rw [hmk] at hm
                split at hsv
                · rename_i k' h1 h2
                  simp only [Option.some.injEq] at hsv
                  subst hsv
                  cases hx' : e' x <;> rw [hx'] at hv <;> try (simp only [VR] at hv; done)
                  rename_i b len' cap'
                  cases b <;> simp only [VR] at hv
                  rename_i b
                  obtain ⟨rfl, hv⟩ := hv
                  simp only [Option.map_some]
                  rw [hm.int_inv, hhi.2 _ _ h2, hlo.1 h1]
                  refine QT.val (fun w => slice_row_run (a := 0) (h := 0) (m := 0) hu hinf w (bounds3_run (Nat.zero_le _) (Nat.le_refl _) (.inl ⟨rfl, rfl⟩) w)) ?_
                  simp only [if_true, VR]
                  exact ⟨trivial, .inl ⟨trivial, .inr ⟨trivial, trivial, trivial⟩⟩⟩
                · cases hsv
              · rename_i k q hq0 hmk
                rw [hmk] at hm
                cases hq : Nat.ble q cap with
                | false => rw [hq, ifb_false] at hsv; cases hsv
                | true =>
                  rw [hq, ifb_true] at hsv
                  have hqc := Nat.le_of_ble_eq_true hq
                  have hqp : q ≠ 0 := fun h0 => by subst h0; exact hq0 rfl
                  obtain ⟨b, s1, x1, e1, e2, e3, e4, e5⟩ := hv.slice_some (by omega)
                  split at hsv
                  · rename_i k2 hb h2
                    cases hhq : Nat.ble hb q with
                    | false => rw [hhq, ifb_false] at hsv; cases hsv
                    | true =>
                      rw [hhq, ifb_true] at hsv
                      have hbq := Nat.le_of_ble_eq_true hhq
                      simp only [Option.map_some]
                      rw [e1, hm.int_inv, hhi.2 _ _ h2]
                      split at hsv
                      · rename_i h1
                        simp only [Option.some.injEq] at hsv
                        subst hsv
                        rw [hlo.1 h1]
                        refine QT.val (fun w => slice_row_run (a := 0) (h := hb) (m := q) hu hinf w (bounds3_run (by omega) hbq (.inl ⟨rfl, rfl⟩) w)) ?_
                        rw [if_neg hqp]
                        exact VR.inexact (.inl rfl)
                      · rename_i k3 l h1
                        cases hlq : Nat.ble l hb with
                        | false => rw [hlq, ifb_false] at hsv; cases hsv
                        | true =>
                          rw [hlq, ifb_true] at hsv
                          simp only [Option.some.injEq] at hsv
                          subst hsv
                          rw [hlo.2 _ _ h1]
                          refine QT.val (fun w => slice_row_run (a := l) (h := hb) (m := q) hu hinf w (bounds3_run (by omega) hbq (.inr ⟨_, rfl, Nat.le_of_ble_eq_true hlq⟩) w)) ?_
                          split <;> exact VR.inexact (.inl rfl)
                      · cases hsv
                  · cases hsv
              · cases hsv
            · cases h
          · cases hsz
        · exact gen_q he hq n0 n1 h
      · cases h
    · split at h
      · rename_i sz hsz
        split at h
        · rename_i p
          cases hlc : Nat.ble len cap with
          | false => rw [hlc, ifb_false] at h; cases h
          | true =>
            rw [hlc, ifb_true] at h
            replace hlc := Nat.le_of_ble_eq_true hlc
            unfold elemSize at hsz
            split at hsz
            · rename_i el hu
              simp only [Option.map_eq_some_iff] at hsz
              obtain ⟨inf, hinf, rfl⟩ := hsz
              unfold opLook at h
              split at h
              · rename_i v hsv
                simp only [Option.some.injEq, Prod.mk.injEq] at h
                obtain ⟨rfl, rfl⟩ := h
                rw [hex]
                unfold sliceV at hsv
                split at hsv
                · rename_i hb hhb
                  split at hsv
                  · rename_i l hab
                    simp only [Option.some.injEq] at hsv
                    subst hsv
                    cases hx' : e' x <;> rw [hx'] at hv <;> try (simp only [VR] at hv; done)
                    rename_i b len' cap'
                    cases b <;> simp only [VR] at hv
                    rename_i b
                    obtain ⟨rfl, hv⟩ := hv
                    have h1 : hb ≤ cap ∧ ∀ c2, cap ≤ c2 → ((hi.map e' = none ∧ hb = len') ∨ ∃ k, hi.map e' = some (.int k (.ofNat hb)) ∧ hb ≤ c2) := by
                      split at hhb
                      · rename_i h0
                        simp only [Option.some.injEq] at hhb
                        exact ⟨by omega, fun _ _ => .inl ⟨hhi.1 h0, hhb.symm⟩⟩
                      · rename_i k q h0
                        cases hq : Nat.ble q cap with
                        | false => rw [hq, ifb_false] at hhb; cases hhb
                        | true =>
                          rw [hq, ifb_true] at hhb
                          simp only [Option.some.injEq] at hhb
                          subst hhb
                          have := Nat.le_of_ble_eq_true hq
                          exact ⟨this, fun c2 hc2 => .inr ⟨k, hhi.2 _ _ h0, by omega⟩⟩
                      · cases hhb
                    have h2 : l ≤ hb ∧ ((lo.map e' = none ∧ l = 0) ∨ ∃ k, lo.map e' = some (.int k (.ofNat l)) ∧ l ≤ hb) := by
                      split at hab
                      · rename_i h0
                        simp only [Option.some.injEq] at hab
                        exact ⟨by omega, .inl ⟨hlo.1 h0, hab.symm⟩⟩
                      · rename_i k q h0
                        cases hq : Nat.ble q hb with
                        | false => rw [hq, ifb_false] at hab; cases hab
                        | true =>
                          rw [hq, ifb_true] at hab
                          simp only [Option.some.injEq] at hab
                          subst hab
                          have := Nat.le_of_ble_eq_true hq
                          exact ⟨this, .inr ⟨k, hlo.2 _ _ h0, this⟩⟩
                      · cases hab
                    have hcc : cap ≤ cap' := by
                      rcases hv with ⟨h0, _⟩ | ⟨_, _, _, _, _, _, rfl⟩ <;> omega
                    refine QT.val (fun w => slice_row_run (a := l) (h := hb) (m := cap') hu hinf w (bounds_run (h1.2 cap' hcc) h2.2 w)) ?_
                    cases hz : Nat.beq (Nat.sub cap l) 0 with
                    | true =>
                      have hz' : cap - l = 0 := Nat.eq_of_beq_eq_true hz
                      have key : inx p.spot = some 1 ∨ inx p.spot = some 0 ∧ Nat.sub hb l = 0 ∧ cap' - l = 0 := by
                        cases hps : p.spot with
                        | none => exact .inl rfl
                        | some q => cases q with
                          | succ q => exact .inl rfl
                          | zero =>
                            rcases hv with ⟨h0, h3 | h3⟩ | ⟨_, _, _, _, h3, _⟩
                            · rw [hps] at h3; simp at h3
                            · exact .inr ⟨rfl, by show hb - l = 0; omega, by omega⟩
                            · rw [hps] at h3; simp at h3
                      rw [ifb_true]
                      split <;> exact VR.inexact key
                    | false =>
                      have hz' : cap - l ≠ 0 := fun h0 => by rw [show Nat.sub cap l = 0 from h0] at hz; cases hz
                      rw [ifb_false]
                      rcases hv with ⟨rfl, _⟩ | ⟨s1, x1, g1, g2, g3, g4, rfl⟩
                      · omega
                      · have hsp : (p.add (Nat.mul l inf.size)).spot = none := by rw [add_spot g3]
                        rw [if_neg (by omega)]
                        simp only [VR, Option.map_some]
                        refine ⟨rfl, .inr ⟨s1, x1, ?_, ?_, hsp, ?_, by show cap + x1 - l = cap - l + x1; omega⟩⟩
                        · rw [add_spot g3, add_spot g4]; exact g1
                        · rw [add_spot g3, add_spot g4]; show b.off + l * inf.size = p.off + l * inf.size + s1; omega
                        · rw [add_spot g4]
                  · cases hsv
                · cases hsv
              · cases h
            · cases hsz
        · exact gen_q he hq n0 n1 h
      · cases h
  · cases h


end Go.Eng

namespace Go.Eng
open Go.RowKit

variable {P : Program} {G N : Nat}

theorem callQuiet {c : Call} (h : quietOp (.call c) = true) : c.callee = .builtin .len ∨ c.callee = .builtin .min ∨ c.callee = .builtin .max := by
  unfold quietOp at h
  split at h <;> first | (cases h; done) | skip
  all_goals (rename_i heq; first | (cases heq; done) | (cases heq; simp; done))

theorem opQ {e e' : Operand → Value} {o : Oper} {H H' : AH} {r : PM} {n : Next} (he : ∀ x, x ∈ o.op.operands → okOpd G x = true → VR r (e x) (e' x)) (hq : quietOp o.op = true) (hl : ∀ t a, o.op ≠ .load t a) (n0 : H.next = 0) (n1 : H'.next = 0)
    (h : opA P G e o H = some (n, H')) : QT P r n (execOp e' o) := by
  have mem : ∀ {l : List Operand}, allOk G l = true → ∀ x, x ∈ l → x ∈ o.op.operands → VR r (e x) (e' x) := fun hl x hx hm => he x hm (allOk_mem hl x hx)
  unfold opA at h
  split at h
  · rename_i x ho
    obtain ⟨h1, h2⟩ := cond1 h
    simp only [Option.some.injEq, Prod.mk.injEq] at h2
    obtain ⟨rfl, rfl⟩ := h2
    refine .here (n' := .value (e' x)) (fun w => ?_) (he x (by rw [ho]; simp [Op.operands]) h1)
    unfold execOp
    simp only [ho]
    rfl
  · rename_i x ho
    obtain ⟨h1, h2⟩ := cond1 h
    simp only [Option.some.injEq, Prod.mk.injEq] at h2
    obtain ⟨rfl, rfl⟩ := h2
    refine .here (n' := .value (e' x)) (fun w => ?_) (he x (by rw [ho]; simp [Op.operands]) h1)
    unfold execOp
    simp only [ho]
    rfl
  · rename_i c a b ho
    obtain ⟨h1, h2⟩ := cond1 h
    have hex : execOp e' o = (do pure (.value (if ← asBool (e' c) then e' a else e' b)) : Sem Next) := by unfold execOp; simp only [ho]
    rw [hex]
    exact opPick_q (mem h1 c (by simp) (by rw [ho]; simp [Op.operands])) (mem h1 a (by simp) (by rw [ho]; simp [Op.operands])) (mem h1 b (by simp) (by rw [ho]; simp [Op.operands])) h2
  · rename_i op t x y z ho
    obtain ⟨h1, h2⟩ := cond1 h
    exact opBin_q ho he hq n0 n1 (allOk_mem h1 x (by simp)) (allOk_mem h1 y (by simp)) h2
  · rename_i t a ho
    exact absurd ho (hl t a)
  · rename_i ho; rw [ho] at hq; cases hq
  · rename_i s x i ho
    obtain ⟨h1, h2⟩ := cond1 h
    exact opField_q ho he hq n0 n1 h1 h2
  · rename_i t x i ho
    obtain ⟨h1, h2⟩ := cond1 h
    exact opIndex_q ho he hq n0 n1 (allOk_mem h1 x (by simp)) (allOk_mem h1 i (by simp)) h2
  · rename_i x i ho
    obtain ⟨h1, h2⟩ := cond1 h
    have hex : execOp e' o = (do pure (Next.value (← Instr.extract (e' x) i)) : Sem Next) := by unfold execOp; simp only [ho]
    rw [hex]
    exact opExtract_q (he x (by rw [ho]; simp [Op.operands]) h1) h2
  · rename_i x ho
    obtain ⟨h1, h2⟩ := cond1 h
    exact opNil_q ho he hq n0 n1 h1 h2
  · rename_i ho; rw [ho] at hq; cases hq
  · rename_i ho; rw [ho] at hq; cases hq
  · rename_i ho; rw [ho] at hq; cases hq
  · rename_i c ho
    have hcq := hq
    rw [ho] at hcq
    unfold opCall at h
    rcases callQuiet hcq with hc | hc | hc
    · rw [hc] at h
      simp only [opBuiltin] at h
      split at h
      · rename_i x t ha ht
        obtain ⟨h1, h2⟩ := cond1 h
        exact opLen_q ho hc ha ht he hq n0 n1 h1 h2
      · cases h
    · rw [hc] at h
      exact gen_q he hq n0 n1 h
    · rw [hc] at h
      exact gen_q he hq n0 n1 h
  · rename_i src dst x ho
    obtain ⟨h1, h2⟩ := cond1 h
    unfold opConv at h2
    split at h2
    · split at h2
      · obtain ⟨v, h3, _⟩ := valued_inv h2
        unfold bytesA at h3
        split at h3
        · simp only [Option.some.injEq, Prod.mk.injEq] at h3
          obtain ⟨_, rfl⟩ := h3
          exact absurd n1 (Nat.succ_ne_zero _)
        · cases h3
      · cases h2
    · cases ht : isText P src dst with
      | true =>
        rw [ht, ifb_true] at h2
        unfold opLook at h2
        split at h2
        · rename_i v hv2
          simp only [Option.some.injEq, Prod.mk.injEq] at h2
          obtain ⟨rfl, -⟩ := h2
          unfold textOf at hv2
          split at hv2
          · rename_i l c hx2
            simp only [Option.some.injEq] at hv2
            subst hv2
            have hvr := he x (by rw [ho]; simp [Op.operands]) h1
            rw [hx2] at hvr
            have hex : execOp e' o = (do pure (Next.value (← convert src dst (e' x))) : Sem Next) := by unfold execOp; simp only [ho]
            rw [hex, flat_eq (r := r) rfl hvr]
            exact QT.val (fun w => text_nil ht w l c) (flat_refl r _ rfl)
          · rw [ifb_and, n0] at hv2
            rename_i len cap _
            cases hcc : Nat.blt 0 cap <;> rw [hcc] at hv2 <;> cases hv2
          · cases hv2
        · cases h2
      | false =>
      rw [ht, ifb_false] at h2
      split at h2
      · rename_i a _
        have hs : samePtr P src dst a H = false := by
          unfold samePtr
          rw [get_none n0]
          split
          · rename_i hh; cases hh
          · rfl
        rw [hs, ifb_false] at h2
        exact gen_q he hq n0 n1 h2
      · exact gen_q he hq n0 n1 h2
  · rename_i t x lo hi mx ho
    obtain ⟨h1, h2⟩ := cond1 h
    exact opSlice_q ho he hq n0 n1 h1 h2
  · rename_i t x i ho
    obtain ⟨h1, h2⟩ := cond1 h
    exact opIx_q ho he hq n0 n1 (allOk_mem h1 x (by simp)) (allOk_mem h1 i (by simp)) h2
  · rename_i ho; rw [ho] at hq; cases hq
  · rename_i ho; rw [ho] at hq; cases hq
  · exact gen_q he hq n0 n1 h

/-! ### Loads, and what they ask -/

theorem ro_bind {α β : Type} (t : Sem α) (f : α → Sem β) : ∀ H, ro P (t.bind f) H = match ro P t H with | some (a, l) => (match ro P (f a) H with | some (b, m) => some (b, l ++ m) | none => none) | none => none := by
  induction t with
  | pure a =>
    intro H
    simp only [Sem.bind, ro]
    cases ro P (f a) H with
    | none => rfl
    | some p => simp
  | load m a k ih =>
    intro H
    simp only [Sem.bind, ro]
    cases H.cell a with
    | none => rfl
    | some v =>
      simp only
      rw [ih]
      cases ro P (k v) H with
      | none => rfl
      | some p =>
        obtain ⟨x, l⟩ := p
        simp only
        cases ro P (f x) H with
        | none => rfl
        | some q => simp
  | program k ih => intro H; exact ih P H
  | mark m k ih => intro H; exact ih H
  | _ => intro H; rfl

theorem ro_b {α β : Type} {t : Sem α} {f : α → Sem β} {H : AH} {a : α} {l : Log} {b : β} {m : Log} (h1 : ro P t H = some (a, l)) (h2 : ro P (f a) H = some (b, m)) : ro P (t >>= f) H = some (b, l ++ m) := by
  show ro P (t.bind f) H = _
  rw [ro_bind, h1]
  simp only [h2]

theorem ro_underlying {t : TypeId} {d : TypeDesc} (h : P.underlying t = some d) (H : AH) : ro P (underlying t) H = some (d, []) := by
  unfold underlying program
  simp only [bind, Sem.bind, ro, h, pure]
theorem ro_typeInfo {t : TypeId} {i : TypeInfo} (h : P.info? t = some i) (H : AH) : ro P (typeInfo t) H = some (i, []) := by
  unfold typeInfo program
  simp only [bind, Sem.bind, ro, h, pure]
theorem ro_sizeOf {t : TypeId} {i : TypeInfo} (h : P.info? t = some i) (H : AH) : ro P (sizeOf t) H = some (i.size, []) := by
  unfold Go.sizeOf
  exact ro_b (ro_typeInfo h H) rfl

theorem ro_loadFrom {H : AH} {a : Addr} {c : List Value} {e : TypeId} {fz : Nat × Nat} (hs : a.spot = none) (hg : H.get a.block = some (.cells ⟨c⟩ e fz)) : ∀ (n i : Nat) (acc : Array Value), a.off + i + n ≤ c.length →
    ro P (loadCellsFrom a i n acc) H = some (⟨acc.toList ++ (c.drop (a.off + i)).take n⟩, logOf a i ((c.drop (a.off + i)).take n))
  | 0, i, acc, _ => by simp [loadCellsFrom, ro, pure, logOf]
  | n + 1, i, acc, h => by
    have hlt : a.off + i < c.length := by omega
    unfold loadCellsFrom
    show ro P (Sem.bind (Sem.load _ (a.add i) Sem.pure) _) H = _
    simp only [Sem.bind, ro, cell_at hs hg, List.getElem?_eq_getElem hlt]
    rw [ro_loadFrom hs hg n (i + 1) _ (by omega)]
    rw [List.drop_eq_getElem_cons hlt]
    simp [Nat.add_assoc, logOf]

theorem ro_loadCells {H : AH} {a : Addr} {n : Nat} {l : List Value} (h : cellsFrom H a n = some l) : ro P (loadCells a n) H = some (⟨l⟩, logOf a 0 l) := by
  by_cases hn : n = 0
  · subst hn
    simp only [cellsFrom, Option.some.injEq] at h
    subst h
    rfl
  · obtain ⟨hs, c, e, fz, hg, h1, rfl⟩ := cellsFrom_inv hn h
    unfold loadCells
    rw [ro_loadFrom hs hg n 0 #[] (by omega)]
    simp

theorem roLoad_ro {t : TypeId} {v u : Value} {H : AH} {lg : Log} (h : roLoad P t v H = some (u, lg)) : ro P (Instr.loadAt t v) H = some (u, lg) := by
  unfold roLoad at h
  split at h
  · rename_i p
    show ro P (loadVar t p) H = _
    unfold loadVar isAgg
    have fin : ∀ (n : Nat) (l : List Value) (i : TypeInfo) (d : TypeDesc), P.underlying t = some d → ((∃ fs, d = .struct fs) ∨ ∃ k el, d = .array k el) → P.info? t = some i → i.size = n → cellsFrom H p n = some l →
        ro P (do if ← (do match ← underlying t with | .struct _ | .array _ _ => pure true | _ => pure false : Sem Bool) then pure (Value.agg (← loadCells p (← sizeOf t))) else load p) H = some (.agg ⟨l⟩, logOf p 0 l) := by
      intro n l i d hd hdd hi hn hl
      subst hn
      have e1 : ro P (do match ← underlying t with | .struct _ | .array _ _ => pure true | _ => pure false : Sem Bool) H = some (true, []) := by
        refine ro_b (ro_underlying hd H) ?_
        rcases hdd with ⟨fs, rfl⟩ | ⟨k, el, rfl⟩ <;> rfl
      have e2 : ro P (do pure (Value.agg (← loadCells p (← sizeOf t)))) H = some (.agg ⟨l⟩, logOf p 0 l) := by
        have := ro_b (P := P) (f := fun n => (do pure (Value.agg (← loadCells p n)) : Sem Value)) (ro_sizeOf hi H) (ro_b (f := fun x => (pure (Value.agg x) : Sem Value)) (ro_loadCells hl) rfl)
        simpa using this
      have := ro_b (P := P) (f := fun c => if c = true then (do pure (Value.agg (← loadCells p (← sizeOf t))) : Sem Value) else load p) e1 (by rw [if_pos rfl]; exact e2)
      simpa using this
    split at h
    · rename_i n hag
      split at h
      · rename_i l hl
        simp only [Option.some.injEq, Prod.mk.injEq] at h
        obtain ⟨rfl, rfl⟩ := h
        unfold aggOf at hag
        split at hag
        · rename_i fs hd
          simp only [Option.map_eq_some_iff] at hag
          obtain ⟨i, hi, hn⟩ := hag
          exact fin n l i _ hd (.inl ⟨_, rfl⟩) hi (by simpa using hn) hl
        · rename_i k el hd
          simp only [Option.map_eq_some_iff] at hag
          obtain ⟨i, hi, hn⟩ := hag
          exact fin n l i _ hd (.inr ⟨_, _, rfl⟩) hi (by simpa using hn) hl
        · cases hag
        · cases hag
      · cases h
    · rename_i hag
      split at h
      · rename_i u' hc
        simp only [Option.some.injEq, Prod.mk.injEq] at h
        obtain ⟨rfl, rfl⟩ := h
        unfold aggOf at hag
        split at hag
        · simp at hag
        · simp at hag
        · rename_i d h1 h2 hd
          have e1 : ro P (do match ← underlying t with | .struct _ | .array _ _ => pure true | _ => pure false : Sem Bool) H = some (false, []) := by
            refine ro_b (ro_underlying hd H) ?_
            cases d <;> first | rfl | exact absurd rfl (h1 _) | exact absurd rfl (h2 _ _)
          have e2 : ro P (load p) H = some (u', [(p, u')]) := by
            show ro P (Sem.load _ p Sem.pure) H = _
            simp only [ro, hc]
          have := ro_b (P := P) (f := fun c => if c = true then (do pure (Value.agg (← loadCells p (← sizeOf t))) : Sem Value) else load p) e1 (by rw [if_neg (by decide)]; exact e2)
          exact this
        · cases hag
      · cases h
    · cases h
  · cases h

/-- What only asks is what the model does. -/
theorem roS : RoS P G N := by
  intro e e' o H r w v more i hrel he h
  unfold roOp at h
  split at h
  · rename_i t a ho
    cases hok : okOpd G a with
    | false => rw [hok, ifb_false] at h; cases h
    | true =>
      rw [hok, ifb_true] at h
      have hv := he a (by rw [ho]; simp [Op.operands]) hok
      obtain ⟨b, es, g1, g2, g3, g4, g5⟩ := ro_sound (P := P) i _ _ r H w v more (TR.loadAt (t := t) hv) hrel (roLoad_ro h)
      refine ⟨b, es, g1, g2, g3, g4, fun w' hw => ?_⟩
      have hex : execOp e' o = (do pure (Next.value (← Instr.loadAt t (e' a))) : Sem Next) := by unfold execOp; simp only [ho]
      rw [hex]
      exact run_val (g5 w' hw)
  · rename_i hl
    cases hq : quietOp o.op with
    | false => rw [hq, ifb_false] at h; cases h
    | true =>
      rw [hq, ifb_true] at h
      unfold roGen at h
      split at h
      · rename_i u H' ho
        cases hn : Nat.beq H'.next 0 with
        | false => rw [hn, ifb_false] at h; cases h
        | true =>
          rw [hn, ifb_true] at h
          simp only [Option.some.injEq, Prod.mk.injEq] at h
          obtain ⟨rfl, rfl⟩ := h
          obtain ⟨n', g1, g2⟩ := opQ he hq (fun t a h0 => hl t a h0) rfl (Nat.eq_of_beq_eq_true hn) ho
          cases n' <;> simp only [NR] at g1
          exact ⟨_, [], g1, trivial, (fun _ h => by cases h), (fun _ h => by cases h), fun w' _ => g2 w'⟩
      · cases h

end Go.Eng

namespace Go.Eng
open Go.RowKit

variable {P : Program} {G N : Nat}

/-- The library's variables lie where they are. -/
def baseR (G : Nat) : PM := fun i => if i < G then some (i, 0, 0) else none

theorem leaf_get {α : Type} (n : Nat) : T7.get (T7.leaf : T7 α) n = none := by
  have hs : ∀ {β : Type} (x : β) (k : Nat), (rep x).sel k = x := fun x k => by
    unfold rep Q.sel
    simp only [ifb_eq]
    cases Nat.beq k 0 <;> cases Nat.beq k 1 <;> cases Nat.beq k 2 <;> rfl
  rw [T7.get_eq, T7.leaf]
  rw [hs, hs, hs, T4.get_leaf]

theorem laidH_get : ∀ (l : List (Nat × Obj)) (i : Nat) (o : Obj), i < 16384 → (∀ p, p ∈ l → p.1 < 16384) → T7.get (laidH l) i = some o → (i, o) ∈ l
  | [], i, o, hi, _, h => by
    have : T7.get (T7.leaf : T7 Obj) i = none := leaf_get i
    rw [show laidH [] = T7.leaf from rfl, this] at h
    cases h
  | (j, q) :: l, i, o, hi, hl, h => by
    have hj : j < 16384 := hl (j, q) (by simp)
    rw [show laidH ((j, q) :: l) = T7.set (laidH l) j q from rfl] at h
    by_cases hij : j = i
    · subst hij
      rw [T7.get_set_same] at h
      simp only [Option.some.injEq] at h
      subst h
      simp
    · rw [T7.get_set_ne _ hj hi hij] at h
      exact List.mem_cons_of_mem _ (laidH_get l i o hi (fun p hp => hl p (by simp [hp])) h)

/-- What is laid is there. -/
def LaidAt (P : Program) (G : Nat) (laid : List (Nat × Obj)) (w : World) : Prop := G ≤ w.heap.size ∧ ∀ p, p ∈ laid → p.1 < G ∧ ObjAt P (baseR G) 0 0 p.2 w.heap[p.1]?

theorem LaidAt.rel {laid : List (Nat × Obj)} {w : World} (h : LaidAt P G laid w) (hG : G ≤ most) : Rel P G w.heap.size (baseR G) ⟨laidH laid, G, G⟩ w := by
  have hb : ∀ i p, baseR G i = some p → i < G ∧ p = (i, 0, 0) := fun i p hp => by
    unfold baseR at hp
    split at hp
    · rename_i hi
      exact ⟨hi, (Option.some.inj hp).symm⟩
    · cases hp
  refine ⟨fun i hi => ?_, fun i p hp => ?_, fun i o hi _ => ?_, fun i j o q b s x s' x' _ _ _ _ h1 h2 => ?_, fun g hg => ?_, Nat.le_refl _, rfl, hG⟩
  · unfold baseR
    rw [if_neg (by have : G ≤ i := hi; omega)]
  · obtain ⟨h1, rfl⟩ := hb i p hp
    exact Nat.lt_of_lt_of_le h1 h.1
  · rw [AH.get_eq] at hi
    split at hi
    · rename_i hlt
      have hlt' : i < G := hlt
      have hmem := laidH_get laid i o (Nat.lt_of_lt_of_le hlt' hG) (fun p hp => Nat.lt_of_lt_of_le (h.2 p hp).1 hG) hi
      exact ⟨i, 0, 0, by unfold baseR; rw [if_pos hlt'], fun h0 => by omega, (h.2 _ hmem).2⟩
    · cases hi
  · obtain ⟨_, e1⟩ := hb i _ h1
    obtain ⟨_, e2⟩ := hb j _ h2
    simp only [Prod.mk.injEq] at e1 e2
    rw [← e1.1, ← e2.1]
  · unfold baseR
    rw [if_pos hg]

/-- A run that was reckoned is the model's. -/
theorem callF_sound (hm : P.follows .mixedOrders = true) {n : Nat} {laid : List (Nat × Obj)} {g : FuncId} {args : List Value} {v : Value} {H' : AH} (hG : G ≤ most) (h : callF P G n laid g args = some (v, H')) (hargs : flat.go args = true) {w : World} (hw : LaidAt P G laid w) :
    Calls P g ⟨args⟩ w fun e w' => ∃ v' s, e = .returned v' ∧ VR s v v' ∧ Below w.heap.size w w' := by
  have hrel := hw.rel hG
  refine (callA_sound (runF_sound hm opS freshS roS pairS n) g args args _ v H' (baseR G) w hrel (flat_list _ hargs) h).mono ?_
  rintro e w' ⟨v', s, h1, h2, h3⟩
  exact ⟨v', s, h1, h2, h3.below hrel⟩

/-- The same, of what has no address in it. -/
theorem callF_flat (hm : P.follows .mixedOrders = true) {n : Nat} {laid : List (Nat × Obj)} {g : FuncId} {args : List Value} {v : Value} (hG : G ≤ most) (h : (callF P G n laid g args).map (·.1) = some v) (hargs : flat.go args = true) (hv : flat v = true) {w : World} (hw : LaidAt P G laid w) :
    Calls P g ⟨args⟩ w fun e w' => e = .returned v ∧ Below w.heap.size w w' := by
  rw [Option.map_eq_some_iff] at h
  obtain ⟨⟨u, H'⟩, h1, h2⟩ := h
  simp only at h2
  subst h2
  refine (callF_sound hm hG h1 hargs hw).mono ?_
  rintro e w' ⟨v', s, e1, e2, e3⟩
  rw [flat_eq hv e2] at e1
  exact ⟨e1, e3⟩

end Go.Eng
