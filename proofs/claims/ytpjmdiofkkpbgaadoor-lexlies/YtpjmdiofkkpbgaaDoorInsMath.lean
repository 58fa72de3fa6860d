/-
  EACH TOKEN ALONE is itself; A BLANK PUT IN ahead of a token, or at the end, changes nothing but places.
-/
import Derived.Test.YtpjmdiofkkpbgaaDoorLiesMath
namespace Go.Proofs.YtpjmdiofkkpbgaaDoor

theorem tokens_alone (x : List Nat) (kd : Nat) (tx : List Nat) (n : Nat) (hx : x.length ≤ 65536) (ho : oneN x = .ok (kd, tx, n, x.length)) (hb : blankN false x = 0) : tokens x = .ok [(kd, tx, n, 0, x.length)] := by
  have h1 := one_len _ _ _ _ _ ho
  unfold tokens
  rw [if_neg (by omega)]
  show TK 0 0 x = _
  rw [TK_ok 0 0 x kd tx n x.length (by rw [hb, List.drop_zero]; intro q; rw [q] at h1; simp at h1) (by omega) (by rw [hb, List.drop_zero]; exact ho), hb]
  rw [show x.drop (0 + x.length) = [] from List.drop_eq_nil_of_le (by omega), TK_end _ _ [] rfl]
  simp [preT]
theorem TK_alone : ∀ (N : Nat) (l : List Nat), l.length ≤ N → l.length ≤ 65536 → ∀ k at0 ts, TK k at0 l = .ok ts → ∀ t ∈ ts, ∃ len, t.2.2.2.2 = t.2.2.2.1 + len ∧ at0 ≤ t.2.2.2.1 ∧
    tokens ((l.drop (t.2.2.2.1 - at0)).take len) = .ok [(t.1, t.2.1, t.2.2.1, 0, len)] := by
  intro N
  induction N with
  | zero =>
    intro l hl h6 k at0 ts h t ht
    rcases TK_inv k at0 l ts h with ⟨rfl, he⟩ | ⟨kd, tx, n, len, rest, he, _, _, _, _⟩
    · simp at ht
    · exfalso; apply he; exact List.drop_eq_nil_of_le (by omega)
  | succ N ih =>
    intro l hl h6 k at0 ts h t ht
    rcases TK_inv k at0 l ts h with ⟨rfl, he⟩ | ⟨kd, tx, n, len, rest, he, hk, ho, hr, rfl⟩
    · simp at ht
    · have h1 := one_len _ _ _ _ _ ho
      rw [List.length_drop] at h1
      rcases List.mem_cons.mp ht with rfl | ht
      · refine ⟨len, rfl, by simp, ?_⟩
        simp only
        rw [show at0 + blankN false l - at0 = blankN false l by omega]
        have hz := blank_zero l false he
        have hm : mayNext ((l.drop (blankN false l)).drop len) [] := .inr fun d hd => by simp at hd
        have e1 := one_local _ kd tx n len ho [] hm
        have e2 := token_no_blank _ kd tx n len ho hz [] hm
        rw [List.append_nil] at e1 e2
        have hlen : ((l.drop (blankN false l)).take len).length = len := by rw [List.length_take, List.length_drop]; omega
        have := tokens_alone _ kd tx n (by rw [hlen]; omega) (by rw [hlen]; exact e1) e2
        rw [hlen] at this
        exact this
      · obtain ⟨len2, h2, h3, h4⟩ := ih (l.drop (blankN false l + len)) (by rw [List.length_drop]; omega) (by rw [List.length_drop]; omega) (k + 1) _ rest hr t ht
        refine ⟨len2, h2, by omega, ?_⟩
        rw [List.drop_drop] at h4
        rw [show blankN false l + len + (t.2.2.2.1 - (at0 + blankN false l + len)) = t.2.2.2.1 - at0 by omega] at h4
        exact h4
/-- Where the i-th token of ts begins in l, or where l ends. -/
def placeOf (at0 : Nat) (l : List Nat) (ts : List (Nat × List Nat × Nat × Nat × Nat)) (i : Nat) : Nat := match ts[i]? with | some t => t.2.2.2.1 - at0 | none => l.length
theorem chain_le (bound : Nat) : ∀ (ts : List (Nat × List Nat × Nat × Nat × Nat)) (at0 : Nat), chain bound at0 ts → ∀ t ∈ ts, at0 ≤ t.2.2.2.1 ∧ t.2.2.2.2 ≤ bound ∧ t.2.2.2.1 < t.2.2.2.2 := by
  intro ts
  induction ts with
  | nil => intro a _ t ht; simp at ht
  | cons u r ih =>
    intro a h t ht
    obtain ⟨h1, h2, h3, h4⟩ := h
    rcases List.mem_cons.mp ht with rfl | ht
    · exact ⟨h1, h3, h2⟩
    · have := ih _ h4 t ht; omega
theorem TK_ins (bl : List Nat) (hbl : insB bl) : ∀ (N : Nat) (l : List Nat), l.length ≤ N → ∀ k at0 ts, TK k at0 l = .ok ts → ∀ i, i ≤ ts.length →
    TK k at0 (l.take (placeOf at0 l ts i) ++ (bl ++ l.drop (placeOf at0 l ts i))) = .ok (ts.take i ++ (ts.drop i).map (shiftK bl.length)) := by
  obtain ⟨hb1, ⟨st, hb2⟩, d, t, hd, hdb⟩ := hbl
  intro N
  induction N with
  | zero =>
    intro l hl k at0 ts h i hi
    rcases TK_inv k at0 l ts h with ⟨rfl, he⟩ | ⟨kd, tx, n, len, rest, he, _, _, _, _⟩
    · obtain rfl : l = [] := List.eq_nil_of_length_eq_zero (by omega)
      have h0 : i = 0 := by simpa using hi
      subst h0
      have h1 := skip_run bl false false hb1 []
      rw [List.append_nil] at h1
      show TK k at0 ([] ++ (bl ++ [])) = _
      rw [List.nil_append, List.append_nil, TK_end _ _ _ (List.drop_eq_nil_of_le (by rw [h1]; simp [blankN]))]; rfl
    · exfalso; apply he; exact List.drop_eq_nil_of_le (by omega)
  | succ N ih =>
    intro l hl k at0 ts h i hi
    have hbnd := blank_le l false
    obtain ⟨st2, hs1, hs2⟩ := skip_take l false
    rcases TK_inv k at0 l ts h with ⟨rfl, he⟩ | ⟨kd, tx, n, len, rest, he, hk, ho, hr, rfl⟩
    · have h0 : i = 0 := by simpa using hi
      subst h0
      have hlen : blankN false l = l.length := by
        have := congrArg List.length he
        rw [List.length_drop] at this
        simp at this; omega
      rw [hlen, List.take_length] at hs1
      have hp : placeOf at0 l [] 0 = l.length := rfl
      rw [hp, List.take_length, List.drop_length, List.append_nil]
      have h1 := skip_run l false st2 hs1 bl
      have h2 : blankN st2 bl = bl.length := by
        cases st2 with
        | false => have := skip_run bl false false hb1 []; rw [List.append_nil] at this; simpa [blankN] using this
        | true => have := skip_run bl true st hb2 []; rw [List.append_nil] at this; cases st <;> simpa [blankN] using this
      rw [TK_end _ _ _ (List.drop_eq_nil_of_le (by rw [h1, h2, List.length_append]; omega))]; rfl
    · have hst : st2 = false := hs2 he
      subst hst
      have h1 := one_len _ _ _ _ _ ho
      rw [List.length_drop] at h1
      have hz := blank_zero l false he
      cases i with
      | zero =>
        have hp : placeOf at0 l ((kd, tx, n, at0 + blankN false l, at0 + blankN false l + len) :: rest) 0 = blankN false l := by
          show at0 + blankN false l - at0 = _; omega
        rw [hp]
        have e1 : blankN false (l.take (blankN false l) ++ (bl ++ l.drop (blankN false l))) = blankN false l + bl.length := by
          rw [skip_run _ _ _ hs1, skip_run _ _ _ hb1, hz, List.length_take]; omega
        have e2 : ∀ j, (l.take (blankN false l) ++ (bl ++ l.drop (blankN false l))).drop (blankN false l + bl.length + j) = l.drop (blankN false l + j) := by
          intro j
          rw [← List.append_assoc, List.drop_append, List.drop_eq_nil_of_le (by rw [List.length_append, List.length_take]; omega), List.nil_append, List.drop_drop]
          congr 1
          rw [List.length_append, List.length_take]; omega
        have e3 := e2 0
        rw [Nat.add_zero, Nat.add_zero] at e3
        rw [TK_ok k at0 _ kd tx n len (by rw [e1, e3]; exact he) hk (by rw [e1, e3]; exact ho), e1, e2 len]
        have h2 := TK_shift _ _ (Nat.le_refl _) (k + 1) _ bl.length rest hr
        rw [show at0 + (blankN false l + bl.length) + len = at0 + blankN false l + len + bl.length by omega, h2]
        simp only [preT, List.take_zero, List.nil_append, List.drop_zero, List.map_cons, List.singleton_append, Except.ok.injEq, List.cons.injEq, and_true]
        unfold shiftK
        simp only
        rw [show at0 + (blankN false l + bl.length) = at0 + blankN false l + bl.length by omega]
      | succ i =>
        have hi2 : i ≤ rest.length := by simpa using hi
        obtain ⟨L, hL⟩ : ∃ L, l.drop (blankN false l + len) = L := ⟨_, rfl⟩
        have hLlen : L.length = l.length - (blankN false l + len) := by rw [← hL, List.length_drop]
        rw [hL] at hr
        have hch := TK_chain _ L (Nat.le_refl _) _ _ _ hr
        obtain ⟨P, hP⟩ : ∃ P, placeOf (at0 + blankN false l + len) L rest i = P := ⟨_, rfl⟩
        have hPL : P ≤ L.length ∧ placeOf at0 l ((kd, tx, n, at0 + blankN false l, at0 + blankN false l + len) :: rest) (i + 1) = blankN false l + len + P := by
          rw [← hP]
          unfold placeOf
          rw [List.getElem?_cons_succ]
          cases hg : rest[i]? with
          | none => simp only; omega
          | some u =>
            have hm := List.mem_of_getElem? hg
            have := chain_le _ _ _ hch u hm
            simp only; omega
        rw [hPL.2]
        have hih := ih L (by omega) (k + 1) _ rest hr i hi2
        rw [hP] at hih
        obtain ⟨r2, hr2⟩ : ∃ r2, L.take P ++ (bl ++ L.drop P) = r2 := ⟨_, rfl⟩
        rw [hr2] at hih
        have hdd : (l.drop (blankN false l)).drop len = L := by rw [List.drop_drop, hL]
        have hm : mayNext ((l.drop (blankN false l)).drop len) r2 := by
          rw [hdd, ← hr2]
          cases hc : L.take P with
          | nil => right; intro q hq; rw [hd] at hq; simp at hq; rw [← hq]; exact hdb
          | cons a b =>
            left
            cases hLc : L with
            | nil => rw [hLc] at hc; simp at hc
            | cons u v =>
              rw [hLc] at hc
              cases P with
              | zero => simp at hc
              | succ P => rw [List.take_succ_cons] at hc; simp at hc; simp [hc.1]
        have hnew : l.take (blankN false l + len + P) ++ (bl ++ l.drop (blankN false l + len + P)) = l.take (blankN false l) ++ ((l.drop (blankN false l)).take len ++ r2) := by
          rw [← hr2, ← hL, List.drop_drop, List.take_add, List.take_add]
          simp [List.append_assoc]
        have e1 : blankN false (l.take (blankN false l) ++ ((l.drop (blankN false l)).take len ++ r2)) = blankN false l := by
          rw [skip_run _ _ _ hs1, token_no_blank _ kd tx n len ho hz r2 hm, List.length_take]; omega
        have e2 : (l.take (blankN false l) ++ ((l.drop (blankN false l)).take len ++ r2)).drop (blankN false l) = (l.drop (blankN false l)).take len ++ r2 := by
          rw [List.drop_append, List.drop_eq_nil_of_le (by rw [List.length_take]; omega), List.nil_append, List.length_take, show blankN false l - min (blankN false l) l.length = 0 by omega, List.drop_zero]
        have e3 : (l.take (blankN false l) ++ ((l.drop (blankN false l)).take len ++ r2)).drop (blankN false l + len) = r2 := by
          rw [← List.drop_drop, e2, List.drop_append, List.drop_eq_nil_of_le (by rw [List.length_take]; omega), List.nil_append, List.length_take, List.length_drop, show len - min len (l.length - blankN false l) = 0 by omega, List.drop_zero]
        rw [hnew]
        have hone := one_local _ kd tx n len ho r2 hm
        rw [TK_ok k at0 _ kd tx n len (by rw [e1, e2]; intro q; rw [q] at hone; cases hone) hk (by rw [e1, e2]; exact hone), e1, e3, hih]
        simp [preT]
theorem tokens_ins (bl : List Nat) (hbl : insB bl) (hb : bl.length ≤ 7) (l : List Nat) (hl : l.length ≤ 8192) (ts : List (Nat × List Nat × Nat × Nat × Nat)) (h : tokens l = .ok ts) (i : Nat) (hi : i ≤ ts.length) :
    tokens (l.take (placeOf 0 l ts i) ++ (bl ++ l.drop (placeOf 0 l ts i))) = .ok (ts.take i ++ (ts.drop i).map (shiftK bl.length)) := by
  unfold tokens at h ⊢
  rw [if_neg (by omega)] at h
  rw [if_neg (by rw [List.length_append, List.length_append, List.length_take, List.length_drop]; omega)]
  exact TK_ins bl hbl _ l (Nat.le_refl _) 0 0 ts h i hi
end Go.Proofs.YtpjmdiofkkpbgaaDoor
