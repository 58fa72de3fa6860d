/-
  CONTRACT of the tour's own call, for every depth.
-/
import Derived.Test.YtepadfcjjcionaaGreatDoorSu
namespace Go.Proofs.YtepadfcjjcionaaGreatDoor
open Go.RowKit
set_option linter.unusedVariables false

theorem st_post {N : Nat} {w : World} {R M B : Nat} {A : Ways} {y z k : Nat} {op ty n : Int} {tx : ByteArray} {ks : List Tm} {kv : Value} {c : Bool} (h : StPost N w R M B A y z k op ty n tx ks kv c) :
    Calls Tryz.prog 14 #[.pointer (some ⟨R, 0, none⟩), .agg #[.int .u8 op, .int .i64 ty, .int .i64 n, .string tx, kv], .bool c] w fun en w' => en = .returned (.bool (walkF (N + 1) ⟨op, ty, n, tx, ks⟩ c).e) ∧
      TourAt w' R M B (orW A (walkF (N + 1) ⟨op, ty, n, tx, ks⟩ c).w) (y + (walkF (N + 1) ⟨op, ty, n, tx, ks⟩ c).y) (z + (walkF (N + 1) ⟨op, ty, n, tx, ks⟩ c).z) (k + bud ⟨op, ty, n, tx, ks⟩) ∧ Kt R M w w' := by
  unfold StPost at h
  refine h.mono ?_
  rintro en w' ⟨rfl, q1, q2⟩
  refine ⟨rfl, ?_, q2⟩
  have ew : (walkF (N + 1) ⟨op, ty, n, tx, ks⟩ c).w = (bodyF (walkF N) ⟨op, ty, n, tx, ks⟩ c).w := no_orW _
  have ey : y + (walkF (N + 1) ⟨op, ty, n, tx, ks⟩ c).y = y + (oneO c).y + (bodyF (walkF N) ⟨op, ty, n, tx, ks⟩ c).y := (Nat.add_assoc _ _ _).symm
  have ez : z + (walkF (N + 1) ⟨op, ty, n, tx, ks⟩ c).z = z + (oneO c).z + (bodyF (walkF N) ⟨op, ty, n, tx, ks⟩ c).z := (Nat.add_assoc _ _ _).symm
  rw [ew, ey, ez]
  exact q1
set_option maxRecDepth 100000 in
theorem stmt_step {N : Nat} (HS : Hid (StmtOk N)) : StmtOk (N + 1) := by
  intro w0 w R M B A y z k op ty n tx ks kv c hE hn hk hb hR hM hB h hs
  refine st_post ?_
  have hp := wt_pos ⟨op, ty, n, tx, ks⟩
  have hsw : y + z + k + 1000 ≤ 1000000000 := by omega
  rcases hE with hE | ⟨he, _⟩
  · have hc : cnt.cntL ks < N := by rw [cnt_parts] at hE; simp only at hE; omega
    have hs' : op ≠ 11 → y + z + k + 100 * cnt.cntL ks + 1000 * N + 1000 ≤ 1000000000 := fun e => by
      rw [wt_eq (t := ⟨op, ty, n, tx, ks⟩) e, cnt_parts] at hs
      simp only at hs
      omega
    by_cases h1 : op = 1
    · subst h1; exact st_block HS (fun u hu => .inl (Nat.lt_of_le_of_lt (cnt_mem hu) hc)) hn hk hb hR hM hB h (hs' (by decide))
    by_cases h8 : op = 8
    · subst h8; exact st_if HS hc hn hk hb hR hM hB h (hs' (by decide))
    by_cases h9 : op = 9
    · subst h9; exact st_loop HS hc hn hk hb hR hM hB h (hs' (by decide))
    by_cases h10 : op = 10
    · subst h10; exact st_choice HS hc hn hk hb hR hM hB h (hs' (by decide))
    by_cases h12 : op = 12
    · exact st_leap HS (.inl h12) hc hn hk hb hR hM hB h (hs' (by omega))
    by_cases h13 : op = 13
    · exact st_leap HS (.inr h13) hc hn hk hb hR hM hB h (hs' (by omega))
    by_cases h14 : op = 14
    · subst h14; exact st_ret HS trivial hn hk hb hR hM hB h hsw
    by_cases h15 : op = 15
    · subst h15; exact st_trap HS trivial hn hk hb hR hM hB h hsw
    exact st_else HS h1 h8 h9 h10 h12 h13 h14 h15 trivial hn hk hb hR hM hB h hsw
  · cases he
    exact st_block HS (fun u hu => nomatch hu) hn hk hb hR hM hB h (by simp only [cnt.cntL]; omega)
theorem stmt_ok : ∀ N, StmtOk N
  | 0 => by
    intro w0 w R M B A y z k op ty n tx ks kv c hE
    rcases hE with hE | ⟨_, hE⟩
    · omega
    · omega
  | N + 1 => stmt_step (stmt_ok N)

/-! ### The depth does not matter -/
theorem blk_congr {f g : Tm → Bool → Out} : ∀ (l : List Tm) (c : Bool), (∀ u ∈ l, ∀ c, f u c = g u c) → blkF f l c = blkF g l c
  | [], c, h => rfl
  | t :: l, c, h => by
    simp only [blkF]
    rw [h t (by simp) c, blk_congr l _ (fun u hu => h u (List.mem_cons_of_mem _ hu))]
theorem arm_congr {f g : Tm → Bool → Out} (n : Int) (c : Bool) : ∀ (l : List Tm), (∀ u ∈ l, ∀ c, f u c = g u c) → armF f n c l = armF g n c l
  | [], h => rfl
  | t :: l, h => by
    simp only [armF]
    rw [h t (by simp) c, arm_congr n c l (fun u hu => h u (List.mem_cons_of_mem _ hu))]
theorem body_congr {f g : Tm → Bool → Out} {N : Nat} (t : Tm) (c : Bool) (ht : cnt.cntL t.ks < N) (h : ∀ u, Enough N u → ∀ c, f u c = g u c) : bodyF f t c = bodyF g t c := by
  have hk : ∀ i, ∀ c, f (kidT t.ks i) c = g (kidT t.ks i) c := fun i => h _ (enough_kid ht i)
  unfold bodyF
  rw [blk_congr t.ks c (fun u hu => h u (.inl (Nat.lt_of_le_of_lt (cnt_mem hu) ht))), arm_congr t.n c (armsL t.ks) (fun u hu => h u (enough_arms ht u hu))]
  simp only [ifF, loopF, hk]
theorem walk_more : ∀ (N : Nat) (t : Tm) (c : Bool), Enough N t → walkF (N + 1) t c = walkF N t c
  | 0, t, c, h => by
    rcases h with h | ⟨_, h⟩
    · omega
    · omega
  | N + 1, t, c, h => by
    show seqO (oneO c) (bodyF (walkF (N + 1)) t c) = seqO (oneO c) (bodyF (walkF N) t c)
    congr 1
    rcases h with h | ⟨rfl, h⟩
    · refine body_congr (N := N) t c (by rw [cnt_parts] at h; omega) (fun u hu c => walk_more N u c hu)
    · rfl
/-- What the tour tells of a term. -/
def tellF (t : Tm) (c : Bool) : Out := walkF (cnt t + 1) t c
theorem walk_tell {N : Nat} {t : Tm} (h : cnt t < N) (c : Bool) : walkF N t c = tellF t c := by
  obtain ⟨d, rfl⟩ : ∃ d, N = cnt t + 1 + d := ⟨N - (cnt t + 1), by omega⟩
  clear h
  induction d with
  | zero => rfl
  | succ d ih => rw [← ih]; exact walk_more (cnt t + 1 + d) t c (.inl (by show cnt t < cnt t + 1 + d; omega))
theorem walk_eb_tell {N : Nat} (h : 1 ≤ N) (c : Bool) : walkF N eb c = tellF eb c := by
  obtain ⟨d, rfl⟩ : ∃ d, N = d + 1 := ⟨N - 1, by omega⟩
  rfl
theorem enough_tell {N : Nat} {t : Tm} (h : Enough N t) (c : Bool) : walkF N t c = tellF t c := by
  rcases h with h | ⟨rfl, h⟩
  · exact walk_tell h c
  · exact walk_eb_tell h c
theorem tell_eq (t : Tm) (c : Bool) : tellF t c = seqO (oneO c) (bodyF tellF t c) := by
  show seqO (oneO c) (bodyF (walkF (cnt t)) t c) = _
  congr 1
  exact body_congr t c (N := cnt t) (by rw [cnt_parts]; omega) (fun u hu c => enough_tell hu c)
end Go.Proofs.YtepadfcjjcionaaGreatDoor
