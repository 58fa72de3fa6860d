/-
  THE PLAIN MATHEMATICS of what scan tells: one by one what is found, what is wrong last; and the tokens out of it.
-/
import Derived.Test.YteeoakbafbnkhaaDoorTokensWalk
import Derived.Test.YteeoakbafbnkhaaDoorXReadAll
namespace Go.Proofs.YteeoakbafbnkhaaDoor
open Go.RowKit
set_option linter.unusedVariables false

/-- What is found at a place: the place, and the token there or what is wrong with it. -/
abbrev Fnd := { x : Nat × Except (Nat × Nat) (Nat × List Nat × Nat × Nat) // ∀ q e, x.2 = .error (q, e) → 30 ≤ e ∧ e ≤ 33 }
def mkFnd (p : Nat) (l : List Nat) : Fnd := ⟨(p, oneN l), fun q e h => one_err l q e h⟩
def okX (o : Except (Nat × Nat) (Nat × List Nat × Nat × Nat)) : Bool := match o with | .ok _ => true | .error _ => false
def lenX (o : Except (Nat × Nat) (Nat × List Nat × Nat × Nat)) : Nat := match o with | .ok (_, _, _, len) => len | .error _ => 0
def tokX (p : Nat) (o : Except (Nat × Nat) (Nat × List Nat × Nat × Nat)) : Nat × List Nat × Nat × Nat × Nat := match o with | .ok (kd, tx, n, len) => (kd, tx, n, p, p + len) | .error _ => (0, [], 0, 0, 0)
def okF (x : Fnd) : Bool := okX x.1.2
def lenF (x : Fnd) : Nat := lenX x.1.2
def tokF (x : Fnd) : Nat × List Nat × Nat × Nat × Nat := tokX x.1.1 x.1.2
theorem okF_mk (p : Nat) (l : List Nat) : okF (mkFnd p l) = okX (oneN l) := rfl
theorem lenF_mk (p : Nat) (l : List Nat) : lenF (mkFnd p l) = lenX (oneN l) := rfl
theorem tokF_mk (p : Nat) (l : List Nat) : tokF (mkFnd p l) = tokX p (oneN l) := rfl
theorem snd_mk (p : Nat) (l : List Nat) : (mkFnd p l).1.2 = oneN l := rfl
def scanN : Nat → Nat → List Nat → List Fnd
  | 0, _, _ => []
  | f + 1, at0, l =>
    if l.drop (blankN false l) = [] then []
    else if okF (mkFnd (at0 + blankN false l) (l.drop (blankN false l))) then
      mkFnd (at0 + blankN false l) (l.drop (blankN false l)) :: scanN f (at0 + blankN false l + lenF (mkFnd (at0 + blankN false l) (l.drop (blankN false l)))) (l.drop (blankN false l + lenF (mkFnd (at0 + blankN false l) (l.drop (blankN false l)))))
    else [mkFnd (at0 + blankN false l) (l.drop (blankN false l))]
theorem ok_len (p : Nat) (l : List Nat) (h : okF (mkFnd p l) = true) : 1 ≤ lenF (mkFnd p l) ∧ lenF (mkFnd p l) ≤ l.length := by
  rw [okF_mk] at h
  rw [lenF_mk]
  cases ho : oneN l with
  | ok x => obtain ⟨kd, tx, n, len⟩ := x; exact one_len l kd tx n len ho
  | error x => rw [ho] at h; simp [okX] at h
theorem scan_fuel : ∀ (f g at0 : Nat) (l : List Nat), l.length < f → l.length < g → scanN f at0 l = scanN g at0 l := by
  intro f
  induction f with
  | zero => intro g at0 l h; omega
  | succ f ih =>
    intro g at0 l h1 h2
    obtain ⟨g, rfl⟩ : ∃ g', g = g' + 1 := ⟨g - 1, by omega⟩
    rw [scanN, scanN]
    by_cases hd : l.drop (blankN false l) = []
    · rw [if_pos hd, if_pos hd]
    · rw [if_neg hd, if_neg hd]
      by_cases hk : okF (mkFnd (at0 + blankN false l) (l.drop (blankN false l))) = true
      · rw [if_pos hk, if_pos hk]
        have hl := ok_len _ _ hk
        rw [List.length_drop] at hl
        congr 1
        refine ih _ _ _ ?_ ?_ <;> (rw [List.length_drop]; omega)
      · rw [if_neg hk, if_neg hk]
def SC (at0 : Nat) (l : List Nat) : List Fnd := scanN (l.length + 1) at0 l
theorem SC_end (at0 : Nat) (l : List Nat) (h : l.drop (blankN false l) = []) : SC at0 l = [] := by unfold SC; rw [scanN, if_pos h]
theorem SC_no (at0 : Nat) (l : List Nat) (h : ¬ l.drop (blankN false l) = []) (hk : okF (mkFnd (at0 + blankN false l) (l.drop (blankN false l))) = false) : SC at0 l = [mkFnd (at0 + blankN false l) (l.drop (blankN false l))] := by
  unfold SC; rw [scanN, if_neg h, if_neg (by simp [hk])]
theorem SC_ok (at0 : Nat) (l : List Nat) (h : ¬ l.drop (blankN false l) = []) (hk : okF (mkFnd (at0 + blankN false l) (l.drop (blankN false l))) = true) :
    SC at0 l = mkFnd (at0 + blankN false l) (l.drop (blankN false l)) :: SC (at0 + blankN false l + lenF (mkFnd (at0 + blankN false l) (l.drop (blankN false l)))) (l.drop (blankN false l + lenF (mkFnd (at0 + blankN false l) (l.drop (blankN false l))))) := by
  unfold SC; rw [scanN, if_neg h, if_pos hk]
  have hl := ok_len _ _ hk
  rw [List.length_drop] at hl
  congr 1
  refine scan_fuel _ _ _ _ ?_ ?_ <;> (rw [List.length_drop]; omega)

/-- The tokens out of what is found. -/
def tkF : Nat → List Fnd → Except (Nat × Nat) (List (Nat × List Nat × Nat × Nat × Nat))
  | _, [] => .ok []
  | k, x :: r => if k = 32768 then .error (x.1.1, 3) else match x.1.2 with | .error (q, e) => .error (x.1.1 + q, e) | .ok _ => preT [tokF x] (tkF (k + 1) r)
theorem TK_scan : ∀ (m k at0 : Nat) (l : List Nat), l.length ≤ m → TK k at0 l = tkF k (SC at0 l) := by
  intro m
  induction m with
  | zero =>
    intro k at0 l h
    have : l = [] := List.length_eq_zero_iff.1 (by omega)
    subst this
    rw [SC_end _ _ rfl, TK_end _ _ _ rfl]; rfl
  | succ m ih =>
    intro k at0 l h
    by_cases hd : l.drop (blankN false l) = []
    · rw [SC_end _ _ hd, TK_end _ _ _ hd]; rfl
    · by_cases hk : k = 32768
      · rw [TK_limit _ _ _ hd hk]
        by_cases hok : okF (mkFnd (at0 + blankN false l) (l.drop (blankN false l))) = true
        · rw [SC_ok _ _ hd hok, tkF, if_pos hk]; rfl
        · rw [SC_no _ _ hd (by simpa using hok), tkF, if_pos hk]; rfl
      · cases ho : oneN (l.drop (blankN false l)) with
        | error x =>
          obtain ⟨q, e⟩ := x
          rw [TK_err _ _ _ q e hd hk ho, SC_no _ _ hd (by rw [okF_mk, ho]; rfl), tkF, if_neg hk, snd_mk, ho]; rfl
        | ok x =>
          obtain ⟨kd, tx, n, len⟩ := x
          have hok : okF (mkFnd (at0 + blankN false l) (l.drop (blankN false l))) = true := by rw [okF_mk, ho]; rfl
          have hlen : lenF (mkFnd (at0 + blankN false l) (l.drop (blankN false l))) = len := by rw [lenF_mk, ho]; rfl
          have htok : tokF (mkFnd (at0 + blankN false l) (l.drop (blankN false l))) = (kd, tx, n, at0 + blankN false l, at0 + blankN false l + len) := by rw [tokF_mk, ho]; rfl
          have hl := ok_len _ _ hok
          rw [hlen, List.length_drop] at hl
          rw [TK_ok _ _ _ kd tx n len hd hk ho, SC_ok _ _ hd hok, tkF, if_neg hk, hlen, htok, snd_mk, ho]
          show _ = preT _ _
          rw [← ih (k + 1) (at0 + blankN false l + len) (l.drop (blankN false l + len)) (by rw [List.length_drop]; omega)]
theorem tkF_pre : ∀ (pre rest : List Fnd) (k : Nat), (∀ x ∈ pre, okF x = true) → k + pre.length ≤ 32768 → tkF k (pre ++ rest) = preT (pre.map tokF) (tkF (k + pre.length) rest) := by
  intro pre
  induction pre with
  | nil => intro rest k _ _; rw [List.nil_append, List.map_nil, preT_nil]; rfl
  | cons x r ih =>
    intro rest k hok hk
    rw [List.length_cons] at hk
    rw [List.cons_append, tkF, if_neg (by omega)]
    have hx := hok x (by simp)
    have hr := ih rest (k + 1) (fun y hy => hok y (List.mem_cons_of_mem _ hy)) (by omega)
    cases ho : x.1.2 with
    | error q => unfold okF at hx; rw [ho] at hx; simp [okX] at hx
    | ok q =>
      show preT [tokF x] (tkF (k + 1) (r ++ rest)) = _
      rw [hr, preT_pre, List.length_cons]
      rw [show k + 1 + r.length = k + (r.length + 1) by omega]; rfl
theorem tokens_scan (l : List Nat) (h : l.length ≤ 65536) : tokens l = tkF 0 (SC 0 l) := by
  unfold tokens; rw [if_neg (by omega)]
  exact TK_scan l.length 0 0 l (Nat.le_refl _)
theorem tk_all (ys : List Fnd) (hok : ∀ x ∈ ys, okF x = true) (hl : ys.length ≤ 32768) : tkF 0 ys = .ok (ys.map tokF) := by
  have := tkF_pre ys [] 0 hok (by omega)
  rw [List.append_nil] at this
  rw [this]; simp [tkF, preT]
theorem tk_limit (pre : List Fnd) (x : Fnd) (rest : List Fnd) (hok : ∀ x ∈ pre, okF x = true) (hl : pre.length = 32768) : tkF 0 (pre ++ x :: rest) = .error (x.1.1, 3) := by
  rw [tkF_pre pre _ 0 hok (by omega), tkF, if_pos (by omega)]; rfl
theorem tk_error (pre : List Fnd) (x : Fnd) (rest : List Fnd) (q e : Nat) (hok : ∀ x ∈ pre, okF x = true) (hl : pre.length < 32768) (hx : x.1.2 = .error (q, e)) : tkF 0 (pre ++ x :: rest) = .error (x.1.1 + q, e) := by
  rw [tkF_pre pre _ 0 hok (by omega), tkF, if_neg (by omega), hx]; rfl
end Go.Proofs.YteeoakbafbnkhaaDoor
