/-
  CONTRACT of the document's Tokens.
-/
import Derived.Test.YteeoakbafbnkhaaDoorTokens
namespace Go.Proofs.YteeoakbafbnkhaaDoor
open Go.RowKit
set_option linter.unusedVariables false

def preT (ts : List (Nat × List Nat × Nat × Nat × Nat)) (x : Except (Nat × Nat) (List (Nat × List Nat × Nat × Nat × Nat))) : Except (Nat × Nat) (List (Nat × List Nat × Nat × Nat × Nat)) :=
  match x with
  | .ok r => .ok (ts ++ r)
  | .error e => .error e
theorem preT_nil (x : Except (Nat × Nat) (List (Nat × List Nat × Nat × Nat × Nat))) : preT [] x = x := by cases x <;> rfl
theorem preT_pre (a b : List (Nat × List Nat × Nat × Nat × Nat)) (x : Except (Nat × Nat) (List (Nat × List Nat × Nat × Nat × Nat))) : preT a (preT b x) = preT (a ++ b) x := by
  cases x <;> simp [preT]
def TK (k at0 : Nat) (l : List Nat) : Except (Nat × Nat) (List (Nat × List Nat × Nat × Nat × Nat)) := toksN (l.length + 1) k at0 l
theorem TK_end (k at0 : Nat) (l : List Nat) (h : l.drop (blankN false l) = []) : TK k at0 l = .ok [] := by
  unfold TK toksN; simp only; rw [if_pos h]
theorem TK_limit (k at0 : Nat) (l : List Nat) (h : ¬ l.drop (blankN false l) = []) (hk : k = 32768) : TK k at0 l = .error (at0 + blankN false l, 3) := by
  unfold TK toksN; simp only; rw [if_neg h, if_pos hk]
theorem TK_err (k at0 : Nat) (l : List Nat) (p e : Nat) (h : ¬ l.drop (blankN false l) = []) (hk : ¬ k = 32768) (ho : oneN (l.drop (blankN false l)) = .error (p, e)) : TK k at0 l = .error (at0 + blankN false l + p, e) := by
  unfold TK toksN; simp only; rw [if_neg h, if_neg hk, ho]
theorem TK_ok (k at0 : Nat) (l : List Nat) (kd : Nat) (tx : List Nat) (n len : Nat) (h : ¬ l.drop (blankN false l) = []) (hk : ¬ k = 32768) (ho : oneN (l.drop (blankN false l)) = .ok (kd, tx, n, len)) :
    TK k at0 l = preT [(kd, tx, n, at0 + blankN false l, at0 + blankN false l + len)] (TK (k + 1) (at0 + blankN false l + len) (l.drop (blankN false l + len))) := by
  have hl := one_len _ _ _ _ _ ho
  rw [List.length_drop] at hl
  unfold TK
  conv => lhs; unfold toksN
  simp only
  rw [if_neg h, if_neg hk, ho]
  simp only
  rw [toks_fuel l.length ((l.drop (blankN false l + len)).length + 1) _ _ _ (by rw [List.length_drop]; omega) (by omega)]
  cases toksN ((l.drop (blankN false l + len)).length + 1) (k + 1) (at0 + blankN false l + len) (l.drop (blankN false l + len)) <;> rfl
theorem text_err : ∀ (f : Nat) (l : List Nat) (q : Option Nat) (e : Nat), textN f l = .error (q, e) → e = 31 ∨ e = 32 := by
  intro f
  induction f with
  | zero => intro l q e h; cases h; simp
  | succ f ih =>
    intro l q e h
    cases l with
    | nil => cases h; simp
    | cons c r =>
      unfold textN at h
      split at h
      · cases h; simp
      · split at h
        · cases h
        · split at h
          · cases hr : textN f r with
            | ok x => rw [hr] at h; obtain ⟨a, b⟩ := x; cases h
            | error x =>
              rw [hr] at h; obtain ⟨q', e'⟩ := x
              have := ih r q' e' hr
              cases q' <;> (cases h; exact this)
          · cases he : escN r with
            | error e' =>
              rw [he] at h; simp only at h
              have := esc_error he
              split at h <;> cases h
              · simp
              · exact this
            | ok x =>
              obtain ⟨b, k⟩ := x
              rw [he] at h
              simp only at h
              cases hr : textN f (r.drop (k - 1)) with
              | ok x => rw [hr] at h; obtain ⟨a, m⟩ := x; cases h
              | error x =>
                rw [hr] at h; obtain ⟨q', e'⟩ := x
                have := ih _ q' e' hr
                cases q' <;> (cases h; exact this)
theorem one_err (l : List Nat) (p e : Nat) (h : oneN l = .error (p, e)) : 30 ≤ e ∧ e ≤ 33 := by
  cases l with
  | nil => cases h; omega
  | cons c r =>
    unfold oneN at h
    simp only at h
    split at h
    · cases h
    · split at h
      · split at h
        · cases h
        · cases h; omega
      · split at h
        · cases hr : textN (r.length + 1) r with
          | ok x => rw [hr] at h; obtain ⟨a, b⟩ := x; cases h
          | error x =>
            rw [hr] at h; obtain ⟨q, e'⟩ := x
            have := text_err _ _ _ _ hr
            cases q <;> (cases h; omega)
        · cases hs : signX (c :: r) with
          | none => rw [hs] at h; cases h; omega
          | some x => rw [hs] at h; cases h
theorem own_form {w : World} {B n : Nat} {v : Value} {xs : List Value} (h : w.ownsRow B 39 5 v n xs) : ∃ ao cap, v = .slice ao n cap := by
  rcases h.2 with ⟨h1, h2⟩ | ⟨g, cap, cur, h1, _⟩
  · exact ⟨none, 0, by rw [h1, h2]⟩
  · exact ⟨_, cap, h1⟩
theorem own_kept {w w' : World} {B n : Nat} {v : Value} {xs : List Value} (h : w.ownsRow B 39 5 v n xs) (hb : Below w.heap.size w w') : w'.ownsRow B 39 5 v n xs := by
  refine ⟨h.1, ?_⟩
  rcases h.2 with hn | ⟨g, cap, cur, hv, hB, hg, rest⟩
  · exact .inl hn
  · exact .inr ⟨g, cap, cur, hv, hB, by rw [hb.block g (Array.getElem?_eq_some_iff.1 hg).1]; exact hg, rest⟩

theorem alloc2_first (w : World) (A B : Obj) : ((w.alloc A).alloc B).heap[w.heap.size]? = some A := by
  have hs : (w.alloc A).heap.size = w.heap.size + 1 := Array.size_push _
  have h1 : ((w.alloc A).heap.push B)[w.heap.size]? = (w.alloc A).heap[w.heap.size]? := by rw [Array.getElem?_push, if_neg (by omega)]
  exact h1.trans (heap_alloc_new w A)
theorem alloc2_size (w : World) (A B : Obj) : ((w.alloc A).alloc B).heap.size = w.heap.size + 2 := by
  have hs : (w.alloc A).heap.size = w.heap.size + 1 := Array.size_push _
  have h2 : ((w.alloc A).heap.push B).size = (w.alloc A).heap.size + 1 := Array.size_push _
  exact h2.trans (by omega)
/-- What a call of Tokens gives. -/
def TokGives (w : World) (x : Except (Nat × Nat) (List (Nat × List Nat × Nat × Nat × Nat))) (e : Ending) (w' : World) : Prop :=
  match x with
  | .ok ts => ∃ v, e = .returned (.tuple #[v, .int .i64 0, .int .i64 0]) ∧ w'.ownsRow w.heap.size 39 5 v ts.length (rowT ts) ∧ Below w.heap.size w w'
  | .error (p, k) => e = .returned (.tuple #[.slice none 0 0, .int .i64 (p : Int), .int .i64 (k : Int)]) ∧ Below w.heap.size w w'
def TokRel (s : ByteArray) (w : World) (B : Nat) (TT : Except (Nat × Nat) (List (Nat × List Nat × Nat × Nat × Nat))) (v i : Value) (wr : World) : Prop :=
  ∃ (at0 P : Nat) (ts : List (Nat × List Nat × Nat × Nat × Nat)), at0 ≤ s.size ∧ P = at0 + blankN false ((bytesN s).drop at0) ∧ i = .int .i64 P ∧ ts.length ≤ 32768 ∧ wr.ownsRow B 39 5 v ts.length (rowT ts) ∧ Below B w wr ∧
    preT ts (TK ts.length at0 ((bytesN s).drop at0)) = TT
theorem gives_err {w w' : World} {p k : Nat} {x : Except (Nat × Nat) (List (Nat × List Nat × Nat × Nat × Nat))} {e : Ending} (hx : Hid (x = .error (p, k))) (he : e = .returned (.tuple #[.slice none 0 0, .int .i64 (p : Int), .int .i64 (k : Int)])) (hb : Below w.heap.size w w') : TokGives w x e w' := by
  rw [hx.out]; exact ⟨he, hb⟩

set_option maxRecDepth 100000 in
set_option maxHeartbeats 2000000 in
theorem rtokens_any (s : ByteArray) (h : s.size ≤ 1048576) (TT : Except (Nat × Nat) (List (Nat × List Nat × Nat × Nat × Nat))) (HTT : Hid (tokens (bytesN s) = TT)) (w : World) :
    Calls Tryd.prog 16 #[.string s] w fun e w' => TokGives w TT e w' := by
  by_cases hbig : 65536 < s.size
  · have HX : Hid (TT = .error (0, 3)) := by unfold Hid; rw [← HTT.out]; unfold tokens; rw [if_pos (by rw [bytesN_length]; exact hbig)]
    go_enter Tryd.func16, Tryd.ntmps16
    go_wp2
    go_ret3
    exact gives_err HX rfl (Below.refl _ _)
  obtain ⟨B, hB⟩ : ∃ B, B = w.heap.size := ⟨_, rfl⟩
  have HB : Hid (B = w.heap.size) := hB
  clear hB
  have HT0 : Hid (TK 0 0 ((bytesN s).drop 0) = TT) := by
    unfold Hid; rw [← HTT.out]; unfold tokens; rw [if_neg (by rw [bytesN_length]; exact hbig), List.drop_zero]; rfl
  obtain ⟨P0, hP0⟩ : ∃ P0, Hid (0 + blankN false ((bytesN s).drop 0) = P0) := ⟨_, rfl⟩
  go_enter Tryd.func16, Tryd.ntmps16
  go_wp2_with fail
  refine (rblank_as s 0 0 P0 rfl (by omega) h hP0.out _).mono ?_
  rintro e wx ⟨rfl, rfl⟩
  go_wp2_with fail
  go_loopw [5, 6] (fun v i wr => TokRel s w B TT v i wr) (fun _ i _ => s.size - (intOf i).toNat)
  case atStart => exact ⟨0, P0, [], by omega, hP0.out.symm, rfl, by simp, World.ownsRow_nil _ _ _ _, Below.refl _ _, by rw [preT_nil]; exact HT0.out⟩
  case round =>
    obtain ⟨at0, P, ts, hat, hP, rfl, hts, hown, hbel, htk⟩ := hrel
    have HP : Hid (P = at0 + blankN false ((bytesN s).drop at0)) := hP
    have hPs : P ≤ s.size := by rw [hP]; have := blank_le ((bytesN s).drop at0) false; rw [List.length_drop, bytesN_length] at this; omega
    have hdd : ((bytesN s).drop at0).drop (blankN false ((bytesN s).drop at0)) = (bytesN s).drop P := by rw [List.drop_drop, ← hP]
    have HDD : Hid (((bytesN s).drop at0).drop (blankN false ((bytesN s).drop at0)) = (bytesN s).drop P) := hdd
    have HTK : Hid (preT ts (TK ts.length at0 ((bytesN s).drop at0)) = TT) := htk
    have BL : Hid (Below B w wr) := hbel
    have hbw : B ≤ wr.heap.size := by rw [HB.out]; exact hbel.size
    obtain ⟨ao, cap, rfl⟩ := own_form hown
    have OW : Hid (wr.ownsRow B 39 5 (.slice ao ts.length cap) ts.length (rowT ts)) := hown
    obtain ⟨n, hn⟩ : ∃ n, Hid (ts.length = n) := ⟨_, rfl⟩
    clear hP htk hbel hown hdd
    rw [hn.out] at OW hts ⊢
    by_cases hlt : P < s.size
    · have hne : ¬ ((bytesN s).drop at0).drop (blankN false ((bytesN s).drop at0)) = [] := by
        rw [HDD.out, bytesN_drop s P hlt]; simp
      have HNE : Hid (¬ ((bytesN s).drop at0).drop (blankN false ((bytesN s).drop at0)) = []) := hne
      clear hne
      by_cases hfull : n = 32768
      · have HX : Hid (TT = .error (P, 3)) := by
          unfold Hid; rw [← HTK.out, TK_limit _ _ _ HNE.out (by rw [hn.out]; exact hfull), ← HP.out]; rfl
        subst hfull
        go_wp2
        go_ret3
        exact gives_err HX rfl (by rw [← HB.out]; exact BL.out)
      · have hf0 : ((n : Int) == 32768) = false := by simp; omega
        cases hO : oneN ((bytesN s).drop P) with
        | error x =>
          obtain ⟨q, k⟩ := x
          have hk := one_err _ _ _ hO
          have HX : Hid (TT = .error (P + q, k)) := by
            unfold Hid; rw [← HTK.out, TK_err _ _ _ q k HNE.out (by rw [hn.out]; exact hfull) (by rw [HDD.out]; exact hO), ← HP.out]; rfl
          have HO : Hid (oneN ((bytesN s).drop P) = .error (q, k)) := hO
          have hk0 : ((k : Int) != 0) = true := by simp; omega
          obtain ⟨M, hM⟩ : ∃ M : Int, Hid (((P + q : Nat) : Int) = M) := ⟨_, rfl⟩
          clear hO hfull
          go_wp2_with fail
          refine (rone_as s P P rfl hlt h _).mono ?_
          rw [HO.out]
          rintro e w2 ⟨⟨pl, rfl⟩, hb2⟩
          rw [oneV_no P q k pl M hM.out.symm]
          have HB2 : Hid (Below B w w2) := BL.out.trans (hb2.mono hbw)
          have hsz2 : B ≤ w2.heap.size := Nat.le_trans hbw hb2.size
          clear hb2
          go_wp2
          go_ret3
          exact gives_err HX (by rw [hM.out]; rfl) (by rw [← HB.out]; exact HB2.out.alloc hsz2 _)
        | ok x =>
          obtain ⟨kd, tx, nn, len⟩ := x
          have hl := one_len _ _ _ _ _ hO
          rw [List.length_drop, bytesN_length] at hl
          have HX : Hid (preT (ts ++ [(kd, tx, nn, P, P + len)]) (TK (n + 1) (P + len) ((bytesN s).drop (P + len))) = TT) := by
            unfold Hid
            rw [← HTK.out, TK_ok _ _ _ kd tx nn len HNE.out (by rw [hn.out]; exact hfull) (by rw [HDD.out]; exact hO), preT_pre, ← HP.out, List.drop_drop, ← Nat.add_assoc, ← HP.out, hn.out]
          have HO : Hid (oneN ((bytesN s).drop P) = .ok (kd, tx, nn, len)) := hO
          obtain ⟨M, hM⟩ : ∃ M : Nat, Hid (P + len = M) := ⟨_, rfl⟩
          have hMs : P < M ∧ M ≤ s.size := by rw [← hM.out]; omega
          obtain ⟨X, hX⟩ : ∃ X, Hid (strN tx = X) := ⟨_, rfl⟩
          obtain ⟨P2, hP2⟩ : ∃ P2, Hid (M + blankN false ((bytesN s).drop M) = P2) := ⟨_, rfl⟩
          clear hO hl
          go_wp2_with fail
          refine (rone_as s P P rfl hlt h _).mono ?_
          rw [HO.out]
          rintro e w2 ⟨⟨pl, rfl⟩, hb2⟩
          rw [oneV_ok P kd nn len tx pl (M : Int) (by rw [hM.out]), hX.out]
          have HB2 : Hid (Below B w w2) := BL.out.trans (hb2.mono hbw)
          have hsz2 : B ≤ w2.heap.size := Nat.le_trans hbw hb2.size
          have OW2 := own_kept OW.out hb2
          have hlt2 : ∀ k, (Value.slice ao n cap).ownBlock = some k → k < w2.heap.size := fun k hk => Nat.lt_of_lt_of_le (OW.out.lt k hk).2 hb2.size
          have OW3 : Hid (w2.ownsRow B 39 5 (.slice ao n cap) n (rowT ts)) := OW2
          have HLT : Hid (∀ k, (Value.slice ao n cap).ownBlock = some k → k < w2.heap.size) := hlt2
          clear hb2 OW2 hlt2
          have HCS : Hid ([Value.int .u8 (kd : Int), .string X, .int .u64 (nn : Int), .int .i64 (P : Int), .int .i64 (M : Int)] = cellsT (kd, tx, nn, P, P + len)) := by
            unfold Hid cellsT; rw [hX.out, hM.out]
          have hbase : B ≤ ((w2.alloc (.cells #[.int .u8 (kd : Int), .string X, .int .u64 (nn : Int), .int .i64 (P : Int), .int .i64 (M : Int)] 39)).alloc (.cells #[.int .u8 (kd : Int), .string X, .int .u64 (nn : Int), .int .i64 (P : Int), .int .i64 (M : Int)] 39)).heap.size := by
            rw [alloc2_size]; omega
          have HBS : Hid _ := hbase
          clear hbase
          go_wp2_with (at_builtin; refine wpList_appT rfl (.tmp 37) (.tmp 39) rfl B _ n ts rfl ((OW3.out.alloc _).alloc _) (kd, tx, nn, P, P + len) (w2.heap.size + 1) rfl _ _ (heap_alloc2_new w2 _ _) HCS.out (by omega) HBS.out ?_; intro v1 w3 own1 bel1 gr1; have hc4 : w3.cell? ⟨w2.heap.size, 4, none⟩ = some (.int .i64 (M : Int)) := gr1.cell (cell_of_row _ w2.heap.size 4 _ _ _ (alloc2_first w2 _ _)) (fun q => Nat.lt_irrefl _ (HLT.out _ q.symm)); have OW4 : Hid (w3.ownsRow B 39 5 v1 (n + 1) (rowT (ts ++ [(kd, tx, nn, P, P + len)]))) := own1; have HB3 : Hid (Below B w w3) := ((HB2.out.alloc hsz2 _).alloc (by rw [show (w2.alloc _).heap.size = w2.heap.size + 1 from Array.size_push _]; omega) _).trans bel1; clear own1 bel1 gr1)
          refine (rblank_as s M M P2 rfl (by omega) h hP2.out _).mono ?_
          rintro e wx ⟨rfl, rfl⟩
          have HPP : Hid (P2 = M + blankN false ((bytesN s).drop M)) := hP2.out.symm
          have hP2b : M ≤ P2 := by rw [← hP2.out]; omega
          go_wp2
          go_roundw
          case rel =>
            refine ⟨M, P2, ts ++ [(kd, tx, nn, P, P + len)], by omega, HPP.out, rfl, by rw [List.length_append, hn.out]; simp; omega, ?_, HB3.out, ?_⟩
            · rw [List.length_append, hn.out]; exact OW4.out
            · rw [List.length_append, hn.out, ← hM.out]; exact HX.out
          case measure => simp [intOf]; omega
    · have hPe : P = s.size := by omega
      have HX : Hid (TT = .ok ts) := by
        unfold Hid; rw [← HTK.out, TK_end _ _ _ (by rw [HDD.out, hPe, drop_size])]; simp [preT]
      go_wp2
      go_ret3
      rw [HX.out]
      exact ⟨_, rfl, by rw [← HB.out, hn.out]; exact OW.out, by rw [← HB.out]; exact BL.out⟩
end Go.Proofs.YteeoakbafbnkhaaDoor
