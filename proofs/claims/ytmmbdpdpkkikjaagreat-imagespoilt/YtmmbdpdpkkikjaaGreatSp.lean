/-
  SPOILT BYTES, as mathematics.
-/
import Derived.Test.YtmmbdpdpkkikjaaGreatJbo
namespace Go.Proofs.YtmmbdpdpkkikjaaGreat
open Go.RowKit
set_option linter.unusedVariables false

/-! ### How long a module's bytes are -/
theorem flat_le {α : Type} (u : α → List Nat) (f : α → Nat) : ∀ l : List α, (∀ a ∈ l, (u a).length ≤ 30 + 30 * f a) → ((l.map u).flatten).length ≤ 30 * l.length + 30 * (l.map f).sum := by
  intro l
  induction l with
  | nil => intro _; simp
  | cons a r ih =>
    intro h
    have h1 := h a (by simp)
    have h2 := ih fun b hb => h b (by simp [hb])
    simp only [List.map_cons, List.flatten_cons, List.length_append, List.length_cons, List.sum_cons]
    omega
theorem flat_le0 {α : Type} (u : α → List Nat) (l : List α) (h : ∀ a ∈ l, (u a).length ≤ 30) : ((l.map u).flatten).length ≤ 30 * l.length := by
  have := flat_le u (fun _ => 0) l (fun a ha => by have := h a ha; omega)
  have e : (l.map fun _ => 0).sum = 0 := by
    clear this h
    induction l with
    | nil => rfl
    | cons a r ih => simpa using ih
  rw [e] at this
  omega
theorem putN_le {n : Nat} (h : n ≤ 2147483647) : (Q01.putN n).length ≤ 5 := by
  exact Q01.plen_le n 4 (Nat.lt_of_lt_of_le (by omega : n < 2147483648) (by decide))
theorem nuB_le {n : Int} (h : NumOk n) : (nuB n).length ≤ 5 := putN_le (by have := h.2; have := h.1; omega)
theorem txB_le {s : ByteArray} (h : s.size ≤ 65536) : (txB s).length ≤ 5 + s.size := by
  unfold txB
  rw [List.length_append, byS_length]
  have := putN_le (n := s.size) (by omega)
  omega
theorem flB_le {f : Fl} (h : FlOk f) : (flB f).length ≤ 30 + 30 * flW f := by
  unfold flB flW
  rw [List.length_append]
  have := txB_le h.1
  have := nuB_le h.2
  omega
theorem tyB_le {t : Ty} (h : TyOk t) : (tyB t).length ≤ 30 + 30 * tyW t := by
  unfold tyB
  rcases h with ⟨h1, h2, h3, h4, h5, h6⟩ | ⟨h1, h2, h3, h4, h5⟩ | ⟨h1, h2, h3, h4, h5⟩
  · rw [if_pos h1]
    unfold liB tyW
    simp only [List.length_cons, List.length_append]
    have := txB_le h2
    have := putN_le (n := t.fields.length) (by omega)
    have := flat_le flB flW t.fields (fun f hf => flB_le (h4 f hf))
    omega
  · rw [if_neg (by omega), if_pos h1]
    simp only [List.length_cons, List.length_append]
    have := nuB_le h4
    have := nuB_le h5
    omega
  · rw [if_neg (by omega), if_neg (by omega), if_pos h1]
    simp only [List.length_cons]
    have := nuB_le h4
    omega
theorem roB_le {r : Ro} (h : RoOk r) : (roB r).length ≤ 30 + 30 * roW r := by
  obtain ⟨h1, h2, h3, h4, h5, h6, h7, h8⟩ := h
  unfold roB liB roW
  simp only [List.length_append]
  have := txB_le h1
  have := putN_le (n := r.params.length) (by omega)
  have := putN_le (n := r.results.length) (by omega)
  have := putN_le (n := r.code.length) (by omega)
  have := nuB_le h6
  have := nuB_le h7
  have := flat_le0 nuB r.params (fun n hn => by have := nuB_le (h3 n hn); omega)
  have := flat_le0 nuB r.results (fun n hn => by have := nuB_le (h5 n hn); omega)
  omega
theorem moB_le {m : Mo} (h : MoFit m) : (moB m).length ≤ 15 + 30 * m.bulk := by
  unfold moB liB Mo.bulk
  simp only [List.length_append]
  have := h.tl
  have := h.xl
  have := h.fl
  have := putN_le (n := m.types.length) (by omega)
  have := putN_le (n := m.texts.length) (by omega)
  have := putN_le (n := m.funcs.length) (by omega)
  have := flat_le tyB tyW m.types (fun t ht => tyB_le (h.ty t ht))
  have := flat_le txB ByteArray.size m.texts (fun s hs => by have := txB_le (h.tx s hs); omega)
  have := flat_le roB roW m.funcs (fun r hr => roB_le (h.ro r hr))
  omega

/-! ### One byte -/
theorem getD_ext {xs ys : List Nat} (hl : xs.length = ys.length) (h : ∀ j, j < xs.length → xs.getD j 0 = ys.getD j 0) : xs = ys := by
  apply List.ext_getElem hl
  intro j h1 h2
  have := h j h1
  simpa [List.getD, h1, h2] using this
theorem getD_set_ne {xs : List Nat} {i j c : Nat} (h : j ≠ i) : (xs.set i c).getD j 0 = xs.getD j 0 := by
  simp only [List.getD_eq_getElem?_getD]
  rw [List.getElem?_set_ne (by omega)]
theorem getD_set_self {xs : List Nat} {i c : Nat} (h : i < xs.length) : (xs.set i c).getD i 0 = c := by
  simp only [List.getD_eq_getElem?_getD]
  rw [List.getElem?_set_self h]
  rfl
theorem getD_drop (xs : List Nat) (k j : Nat) : (xs.drop k).getD j 0 = xs.getD (k + j) 0 := by
  simp only [List.getD_eq_getElem?_getD]
  rw [List.getElem?_drop]
theorem img_len (b : List Nat) (j : Nat) (h : j < 4) : (imgB b).getD (4 + j) 0 = (fixN b.length 4).getD j 0 := by
  rw [← getD_drop, img_drop4, getD_app (by rw [fixN_length]; exact h)]
theorem img_in (b : List Nat) (j : Nat) (h : j < b.length) : (imgB b).getD (8 + j) 0 = b.getD j 0 := by
  rw [← getD_drop, img_drop8, getD_app h]
theorem img_sum (b : List Nat) (j : Nat) : (imgB b).getD (b.length + 8 + j) 0 = (fixN (Q01.sumN b) 4).getD j 0 := by
  rw [← getD_drop, img_dropE]
theorem set_split {b : List Nat} {k c : Nat} (h : k < b.length) : b = b.take k ++ b.getD k 0 :: b.drop (k + 1) ∧ b.set k c = b.take k ++ c :: b.drop (k + 1) := by
  constructor
  · have e : b.getD k 0 = b[k] := by simp [List.getD, h]
    rw [e, List.getElem_cons_drop, List.take_append_drop]
  · rw [List.set_eq_take_append_cons_drop, if_pos h]
/-- Images of which one byte is another one are one image. -/
theorem img_other {b b' : List Nat} (hb : ∀ c ∈ b, c < 256) {i c : Nat} (hc : c < 256) (hi : i < (imgB b).length) (h : (imgB b).set i c = imgB b') : (imgB b).getD i 0 = c := by
  have hl : b'.length = b.length := by
    have := congrArg List.length h
    rw [List.length_set, imgB_length, imgB_length] at this
    omega
  rw [imgB_length] at hi
  have hself : (imgB b').getD i 0 = c := by rw [← h, getD_set_self (by rw [imgB_length]; exact hi)]
  have hne : ∀ j, j ≠ i → (imgB b').getD j 0 = (imgB b).getD j 0 := fun j hj => by rw [← h, getD_set_ne hj]
  by_cases h4 : i < 4
  · rw [img_mrk _ _ h4] at hself ⊢
    exact hself
  · by_cases h8 : i < 8
    · have e : i = 4 + (i - 4) := by omega
      rw [e, img_len _ _ (by omega), hl] at hself
      rw [e, img_len _ _ (by omega)]
      exact hself
    · by_cases hE : b.length + 8 ≤ i
      · have hbb : b' = b := getD_ext hl fun j hj => by
          rw [hl] at hj
          have := hne (8 + j) (by omega)
          rw [img_in _ _ (by omega), img_in _ _ hj] at this
          exact this
        rw [hbb] at hself
        exact hself
      · have hk : i - 8 < b.length := by omega
        have e : i = 8 + (i - 8) := by omega
        have hbs : b' = b.set (i - 8) c := getD_ext (by rw [hl, List.length_set]) fun j hj => by
          rw [hl] at hj
          by_cases hji : j = i - 8
          · subst hji
            rw [getD_set_self hk, ← img_in b' _ (by omega), ← e]
            exact hself
          · rw [getD_set_ne hji, ← img_in b' _ (by omega), ← img_in b _ hj]
            exact hne _ (by omega)
        have hfs : fixN (Q01.sumN b') 4 = fixN (Q01.sumN b) 4 := getD_ext (by rw [fixN_length, fixN_length]) fun j hj => by
          rw [fixN_length] at hj
          have := hne (b.length + 8 + j) (by omega)
          rw [img_sum, ← hl, img_sum] at this
          exact this
        have hs : Q01.sumN b' = Q01.sumN b := by rw [← wid_fix4 _ (sumN_lt b'), hfs, wid_fix4 _ (sumN_lt b)]
        obtain ⟨e1, e2⟩ := set_split (c := c) hk
        have hx : b.getD (i - 8) 0 < 256 := by
          have e3 : b.getD (i - 8) 0 = b[i - 8] := by simp [List.getD, hk]
          rw [e3]
          exact hb _ (List.getElem_mem hk)
        have hq : Q01.sumN (b.take (i - 8) ++ b.getD (i - 8) 0 :: b.drop (i - 8 + 1)) = Q01.sumN (b.take (i - 8) ++ c :: b.drop (i - 8 + 1)) := by rw [← e1, ← e2, ← hbs, hs]
        have hz := (Q01.sum_other _ _ _ _ hx hc).1 hq
        rw [e, img_in _ _ hk]
        exact hz
/-! ### What Load answers to them -/
theorem sp_short {A : MoP} (hc : chkE A = 0) {i : Nat} (hi : i < (imgB (moB A.mo)).length) : ldR ((imgB (moB A.mo)).take i) = .inl (i, 10) := by
  have hle := img_le hc
  have hl := imgB_length (moB A.mo)
  unfold ldR ldK
  rw [if_neg (by rw [List.length_take]; omega), head_short _ (by omega) i hi]
theorem sp_long {A : MoP} (hc : chkE A = 0) (hb : A.mo.bulk ≤ 10000) (c : Nat) : ldR (imgB (moB A.mo) ++ [c]) = .inl ((imgB (moB A.mo)).length, 130) := by
  have hl := imgB_length (moB A.mo)
  have hle := moB_le (fit_of (parts_of hc))
  unfold ldR ldK
  rw [if_neg (by rw [List.length_append, hl]; simp; omega), head_long _ (by omega)]
theorem sp_other {w : World} {A : MoP} (hA : MoIn w A) (hc : chkE A = 0) {i c : Nat} (hc2 : c < 256) (hi : i < (imgB (moB A.mo)).length) : (∃ m, ldR ((imgB (moB A.mo)).set i c) = .inr m) ↔ (imgB (moB A.mo)).getD i 0 = c := by
  constructor
  · rintro ⟨m, hm⟩
    have hb : ∀ d ∈ (imgB (moB A.mo)).set i c, d < 256 := fun d hd => by
      rcases List.mem_or_eq_of_mem_set hd with h | h
      · exact imgB_byte (moB_byte hA) d h
      · omega
    have := (ld_once hb hm).1
    exact img_other (moB_byte hA) hc2 hi this
  · intro h
    refine ⟨A.mo, ?_⟩
    have e : (imgB (moB A.mo)).set i c = imgB (moB A.mo) := by
      refine getD_ext (by rw [List.length_set]) fun j hj => ?_
      by_cases hji : j = i
      · subst hji
        rw [getD_set_self hi, h]
      · rw [getD_set_ne hji]
    rw [e]
    exact ld_back hc
end Go.Proofs.YtmmbdpdpkkikjaaGreat
