/-
  A TEXT, QUOTED, is one token that stands for it; without its last sign it has no end.
-/
import Derived.Test.YtpjmdiofkkpbgaaDoorTokensWalk
namespace Go.Proofs.YtpjmdiofkkpbgaaDoor

theorem hex_back (d : Nat) (h : d < 16) : hexN (hexC d) = d ∧ endsB (hexC d) = false := by
  have : ∀ d : Fin 16, hexN (hexC d.1) = d.1 ∧ endsB (hexC d.1) = false := by decide
  exact this ⟨d, h⟩
/-- One piece ahead of whatever follows. -/
theorem T_piece (c : Nat) (hc : c < 256) (r : List Nat) : T (pieceN c ++ r) = shiftT (pieceN c).length [c] (T r) := by
  unfold pieceN
  have e92 : endsB 92 = false := rfl
  have p92 : plainB 92 = false := rfl
  have n92 : ¬ (92 : Nat) = 34 := by omega
  by_cases h1 : c = 34 ∨ c = 92
  · rw [if_pos h1]
    have he : escN (c :: r) = .ok (c, 2) := by rcases h1 with rfl | rfl <;> rfl
    show T (92 :: (c :: r)) = _
    rw [T_esc 92 (c :: r) c 2 e92 n92 p92 he]; rfl
  rw [if_neg h1]
  by_cases h2 : c = 10
  · subst h2
    show T (92 :: (110 :: r)) = _
    rw [T_esc 92 (110 :: r) 10 2 e92 n92 p92 rfl]; rfl
  rw [if_neg h2]
  by_cases h3 : c = 9
  · subst h3
    show T (92 :: (116 :: r)) = _
    rw [T_esc 92 (116 :: r) 9 2 e92 n92 p92 rfl]; rfl
  rw [if_neg h3]
  by_cases h4 : c = 13
  · subst h4
    show T (92 :: (114 :: r)) = _
    rw [T_esc 92 (114 :: r) 13 2 e92 n92 p92 rfl]; rfl
  rw [if_neg h4]
  by_cases h5 : c < 32 ∨ c = 127
  · rw [if_pos h5]
    obtain ⟨a1, a2⟩ := hex_back (c / 16) (by omega)
    obtain ⟨b1, b2⟩ := hex_back (c % 16) (by omega)
    have he : escN (120 :: hexC (c / 16) :: hexC (c % 16) :: r) = .ok (c, 4) := by
      have e1 : ¬ hexN (hexC (c / 16)) = 16 := by rw [a1]; omega
      have e2 : ¬ hexN (hexC (c % 16)) = 16 := by rw [b1]; omega
      simp [escN, e120, a2, b2, e1, e2]
      rw [a1, b1]
      omega
    show T (92 :: (120 :: hexC (c / 16) :: hexC (c % 16) :: r)) = _
    rw [T_esc 92 _ c 4 e92 n92 p92 he]; rfl
  rw [if_neg h5]
  have q1 : endsB c = false := by simp [endsB]; omega
  have q2 : plainB c = true := by simp [plainB]; omega
  show T (c :: r) = _
  rw [T_plain c r q1 (by omega) q2]; rfl
theorem T_pieces : ∀ (l : List Nat), (∀ c ∈ l, c < 256) → ∀ r, T (l.flatMap pieceN ++ r) = shiftT (l.flatMap pieceN).length l (T r) := by
  intro l
  induction l with
  | nil => intro _ r; simp only [List.flatMap_nil, List.nil_append, List.length_nil]; rw [shiftT_zero]
  | cons c t ih =>
    intro h r
    rw [List.flatMap_cons, List.append_assoc, T_piece c (h c (by simp)), ih (fun d hd => h d (by simp [hd])), shiftT_shift, List.length_append]
    rfl
theorem T_quoted (l : List Nat) (h : ∀ c ∈ l, c < 256) : T (l.flatMap pieceN ++ [34]) = .ok (l, (l.flatMap pieceN).length + 1) := by
  rw [T_pieces l h, T_quote]; simp [shiftT]; omega
theorem T_open (l : List Nat) (h : ∀ c ∈ l, c < 256) : T (l.flatMap pieceN) = .error (none, 31) := by
  have := T_pieces l h []
  rw [List.append_nil] at this
  rw [this, T_nil]; rfl
theorem piece_len (c : Nat) : 1 ≤ (pieceN c).length ∧ (pieceN c).length ≤ 4 := by
  unfold pieceN
  split; simp
  split; simp
  split; simp
  split; simp
  split <;> simp
theorem pieces_len (l : List Nat) : (l.flatMap pieceN).length ≤ 4 * l.length := by
  induction l with
  | nil => simp
  | cons c t ih => rw [List.flatMap_cons, List.length_append, List.length_cons]; have := piece_len c; omega
theorem blank_quote (r : List Nat) : blankN false (34 :: r) = 0 := by simp [blankN, blankB]
theorem tokens_quote (l : List Nat) (h : ∀ c ∈ l, c < 256) (hl : l.length ≤ 8192) : tokens (quoteN l) = .ok [(3, l, 0, 0, (quoteN l).length)] := by
  have hp := pieces_len l
  have hlen : (quoteN l).length = (l.flatMap pieceN).length + 2 := by unfold quoteN; rw [List.length_cons, List.length_append]; rfl
  unfold tokens
  rw [if_neg (by rw [hlen]; omega)]
  show TK 0 0 (quoteN l) = _
  have hb : blankN false (quoteN l) = 0 := blank_quote _
  have hone : oneN ((quoteN l).drop (blankN false (quoteN l))) = .ok (3, l, 0, (l.flatMap pieceN).length + 1 + 1) := by
    rw [hb, List.drop_zero]
    unfold quoteN
    rw [one_text, T_quoted l h]
  rw [TK_ok 0 0 (quoteN l) 3 l 0 _ (by rw [hb]; simp [quoteN]) (by omega) hone, hb]
  rw [show (quoteN l).drop (0 + ((l.flatMap pieceN).length + 1 + 1)) = [] from List.drop_eq_nil_of_le (by rw [hlen]; omega), TK_end _ _ [] rfl, hlen]
  simp [preT]
theorem tokens_open (l : List Nat) (h : ∀ c ∈ l, c < 256) (hl : l.length ≤ 8192) : tokens (34 :: l.flatMap pieceN) = .error (0, 31) := by
  have hp := pieces_len l
  unfold tokens
  rw [if_neg (by rw [List.length_cons]; omega)]
  show TK 0 0 (34 :: l.flatMap pieceN) = _
  have hb : blankN false (34 :: l.flatMap pieceN) = 0 := blank_quote _
  have hone : oneN ((34 :: l.flatMap pieceN).drop (blankN false (34 :: l.flatMap pieceN))) = .error (0, 31) := by
    rw [hb, List.drop_zero, one_text, T_open l h]
  rw [TK_err 0 0 _ 0 31 (by rw [hb]; simp) (by omega) hone, hb]
end Go.Proofs.YtpjmdiofkkpbgaaDoor
