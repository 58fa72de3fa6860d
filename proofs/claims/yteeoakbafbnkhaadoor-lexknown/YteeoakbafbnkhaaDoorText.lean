/-
  CONTRACT of the document's text.
-/
import Derived.Test.YteeoakbafbnkhaaDoorRows5
import Derived.Test.YteeoakbafbnkhaaDoorTextMath
namespace Go.Proofs.YteeoakbafbnkhaaDoor
open Go.RowKit
set_option linter.unusedVariables false

def tokV (kd : Nat) (x : ByteArray) (n a b : Nat) : Array Value := #[.int .u8 (kd : Int), .string x, .int .u64 (n : Int), .int .i64 (a : Int), .int .i64 (b : Int)]
def textV (p : Nat) (t : Except (Option Nat × Nat) (List Nat × Nat)) : Value :=
  match t with
  | .ok (out, m) => .tuple #[.agg #[.int .u8 3, .string (strN out), .int .u64 0, .int .i64 (p : Int), .int .i64 ((p + 1 + m : Nat) : Int)], .int .i64 0, .int .i64 0]
  | .error (none, e) => .tuple #[.agg #[.int .u8 0, .string ⟨#[]⟩, .int .u64 0, .int .i64 0, .int .i64 0], .int .i64 (p : Int), .int .i64 (e : Int)]
  | .error (some q, e) => .tuple #[.agg #[.int .u8 0, .string ⟨#[]⟩, .int .u64 0, .int .i64 0, .int .i64 0], .int .i64 ((p + 1 + q : Nat) : Int), .int .i64 (e : Int)]

theorem textV_ok (p j : Nat) (outs : List Nat) (h : p + 1 ≤ j) : textV p (.ok (outs, 1 + (j - (p + 1)))) = .tuple #[.agg #[.int .u8 3, .string (strN outs), .int .u64 0, .int .i64 (p : Int), .int .i64 ((j : Int) + 1)], .int .i64 0, .int .i64 0] := by
  show Value.tuple #[.agg #[.int .u8 3, .string (strN outs), .int .u64 0, .int .i64 (p : Int), .int .i64 ((p + 1 + (1 + (j - (p + 1))) : Nat) : Int)], .int .i64 0, .int .i64 0] = _
  rw [show ((p + 1 + (1 + (j - (p + 1))) : Nat) : Int) = (j : Int) + 1 by omega]
theorem textV_at (p j e : Nat) (h : p + 1 ≤ j) : textV p (.error (some (0 + (j - (p + 1))), e)) = .tuple #[.agg #[.int .u8 0, .string ⟨#[]⟩, .int .u64 0, .int .i64 0, .int .i64 0], .int .i64 (j : Int), .int .i64 (e : Int)] := by
  show Value.tuple #[.agg #[.int .u8 0, .string ⟨#[]⟩, .int .u64 0, .int .i64 0, .int .i64 0], .int .i64 ((p + 1 + (0 + (j - (p + 1))) : Nat) : Int), .int .i64 (e : Int)] = _
  rw [show ((p + 1 + (0 + (j - (p + 1))) : Nat) : Int) = (j : Int) by omega]
def TextRel (s : ByteArray) (w1 : World) (B p : Nat) (TT : Except (Option Nat × Nat) (List Nat × Nat)) (v i : Value) (wr : World) : Prop :=
  ∃ (j : Nat) (outs : List Nat), p + 1 ≤ j ∧ j ≤ s.size ∧ outs.length ≤ j ∧ i = .int .i64 j ∧ wr.ownsRow B 5 1 v outs.length (nums outs) ∧ Below B w1 wr ∧ shiftT (j - (p + 1)) outs (T ((bytesN s).drop j)) = TT
theorem escR_ok {r : List Nat} {B K : Nat} (h : escR r = (B, K, 0)) : escN r = .ok (B, K) := by
  unfold escR at h
  cases he : escN r with
  | ok bk => rw [he] at h; obtain ⟨b, k⟩ := bk; simp at h; obtain ⟨rfl, rfl⟩ := h; rfl
  | error e => rw [he] at h; simp at h; rcases esc_error he with rfl | rfl <;> simp at h
theorem escR_er {r : List Nat} {B K e : Nat} (h : escR r = (B, K, e)) (he0 : ¬ e = 0) : escN r = .error e ∧ B = 0 ∧ K = 0 ∧ (e = 31 ∨ e = 32) := by
  unfold escR at h
  cases he : escN r with
  | ok bk => rw [he] at h; obtain ⟨b, k⟩ := bk; simp at h; omega
  | error e' => rw [he] at h; simp at h; obtain ⟨rfl, rfl, rfl⟩ := h; exact ⟨rfl, rfl, rfl, esc_error he⟩

set_option maxRecDepth 100000 in
set_option maxHeartbeats 2000000 in
theorem rtext_as (s : ByteArray) (y : Int) (p : Nat) (R : Value) (hy : y = p) (hp : p < s.size) (h : s.size ≤ 1048576) (hR : textV p (T ((bytesN s).drop (p + 1))) = R) (w : World) :
    Calls Tryd.prog 44 #[.string s, .int .i64 y] w fun e w' => e = .returned R ∧ Below w.heap.size w w' := by
  subst hy
  obtain ⟨TT, hTT⟩ : ∃ TT, Hid (T ((bytesN s).drop (p + 1)) = TT) := ⟨_, rfl⟩
  have HR : Hid (textV p TT = R) := by unfold Hid; rw [← hTT.out]; exact hR
  clear hR
  obtain ⟨g, hg⟩ : ∃ g, g = w.heap.size := ⟨_, rfl⟩
  have HG : Hid (g = w.heap.size) := hg
  go_enter Tryd.func44, Tryd.ntmps44
  go_wp2_with fail
  rw [← hg]
  clear hg
  obtain ⟨w1, hw1⟩ : ∃ w1, w1 = w.alloc (.cells #[.int .u8 0, .string ⟨#[]⟩, .int .u64 0, .int .i64 0, .int .i64 0] 39) := ⟨_, rfl⟩
  rw [← hw1]
  have HW1 : Hid (w1 = w.alloc (.cells #[.int .u8 0, .string ⟨#[]⟩, .int .u64 0, .int .i64 0, .int .i64 0] 39)) := hw1
  have HB0 : Hid (Below g w w1) := by unfold Hid; rw [hw1]; exact (Below.refl _ _).alloc (by rw [HG.out]; exact Nat.le_refl _) _
  have HS1 : Hid (w1.heap.size = g + 1) := by unfold Hid; rw [hw1, HG.out]; exact Array.size_push _
  clear hw1
  go_loopw [7, 8] (fun v i wr => TextRel s w1 (g + 1) p TT v i wr) (fun _ i _ => s.size - (intOf i).toNat)
  case atStart => exact ⟨p + 1, [], by omega, by omega, by simp, by go_num, World.ownsRow_nil _ _ _ _, Below.refl _ _, by rw [Nat.sub_self, shiftT_zero]; exact hTT.out⟩
  case round =>
    obtain ⟨j, outs, hpj, hj, hlen, rfl, hown, hbel, hsh⟩ := hrel
    have hblk : wr.heap[g]? = some (.cells #[.int .u8 0, .string ⟨#[]⟩, .int .u64 0, .int .i64 0, .int .i64 0] 39) := by
      rw [hbel.block g (by omega), HW1.out, HG.out]; exact heap_alloc_new w _
    have c0 : wr.cell? ⟨g, 0, none⟩ = some (.int .u8 0) := cell_of_row _ g 0 _ _ _ hblk
    have c1 : wr.cell? ⟨g, 1, none⟩ = some (.string ⟨#[]⟩) := cell_of_row _ g 1 _ _ _ hblk
    have c2 : wr.cell? ⟨g, 2, none⟩ = some (.int .u64 0) := cell_of_row _ g 2 _ _ _ hblk
    have c3 : wr.cell? ⟨g, 3, none⟩ = some (.int .i64 0) := cell_of_row _ g 3 _ _ _ hblk
    have c4 : wr.cell? ⟨g, 4, none⟩ = some (.int .i64 0) := cell_of_row _ g 4 _ _ _ hblk
    have f0 : ∀ j, wr.frozen? ⟨g, j, none⟩ = false := fun j => by simp [World.frozen?, hblk]
    have HBK : Hid (wr.heap[g]? = some (.cells #[.int .u8 0, .string ⟨#[]⟩, .int .u64 0, .int .i64 0, .int .i64 0] 39)) := hblk
    have OW : Hid (wr.ownsRow (g + 1) 5 1 u7 outs.length (nums outs)) := hown
    have BL : Hid (Below (g + 1) w1 wr) := hbel
    have BW : Hid (Below g w wr) := HB0.out.trans (hbel.mono (by omega))
    have hbase : g + 1 ≤ wr.heap.size := by have := hbel.size; rw [HS1.out] at this; exact this
    have hbase2 : g + 1 ≤ wr.heap.size + 1 := by omega
    have SH : Hid (shiftT (j - (p + 1)) outs (T ((bytesN s).drop j)) = TT) := hsh
    have hl2 : outs.length ≤ 1048576 := by omega
    clear hblk hown hbel hsh
    by_cases hlt : j < s.size
    · have hdrop := bytesN_drop s j hlt
      obtain ⟨c, hc⟩ : ∃ c, (s[j]'hlt).toNat = c := ⟨_, rfl⟩
      rw [hc] at hdrop
      have HD : Hid ((bytesN s).drop j = c :: (bytesN s).drop (j + 1)) := hdrop
      clear hdrop
      by_cases hends : endsB c = true
      · have HE : Hid (endsB c = true) := hends
        have HRV : Hid (textV p (.error (none, 31)) = R) := by
          unfold Hid; rw [← HR.out, ← SH.out, HD.out, T_ends c _ hends]; rfl
        clear hends
        go_wp2_with fail
        refine (rends_in s _ j c rfl hlt hc h _).mono ?_
        rw [HE.out]
        rintro e wx ⟨rfl, rfl⟩
        go_wp2
        refine bodyPost_cell3 (g := g) (t := 39) rfl rfl rfl (set5_block _ _ _ _ _ _ _ _ _ _ _ _ _ _ HBK.out) Tryd.underlying39 rfl (by kernel_rfl) ?_
        exact ⟨by rw [← HRV.out]; rfl, by rw [← HG.out]; exact set5_below BW.out (Nat.le_refl _)⟩
      · have HE : Hid (endsB c = false) := by simpa [Hid] using hends
        clear hends
        by_cases hq : c = 34
        · subst hq
          have HRV : Hid (textV p (.ok (outs, 1 + (j - (p + 1)))) = R) := by
            unfold Hid; rw [← HR.out, ← SH.out, HD.out, T_quote]; simp [shiftT]
          have hcv := conv_own OW.out
          go_wp2_with fail
          refine (rends_in s _ j 34 rfl hlt hc h _).mono ?_
          rw [HE.out]
          rintro e wx ⟨rfl, rfl⟩
          go_wp2
          refine bodyPost_cell3 (g := g) (t := 39) rfl rfl rfl (set5_block _ _ _ _ _ _ _ _ _ _ _ _ _ _ HBK.out) Tryd.underlying39 rfl (by kernel_rfl) ?_
          refine ⟨?_, by rw [← HG.out]; exact set5_below BW.out (Nat.le_refl _)⟩
          rw [← HRV.out, textV_ok p j outs hpj]
          rfl
        · have hq0 : ((c : Int) == 34) = false := by simp; omega
          by_cases hpl : plainB c = true
          · have HP : Hid (plainB c = true) := hpl
            have HQ : Hid (¬ c = 34) := hq
            have SH2 : Hid (shiftT (j + 1 - (p + 1)) (outs ++ [c]) (T ((bytesN s).drop (j + 1))) = TT) := by
              unfold Hid; rw [← SH.out, HD.out, T_plain c _ HE.out hq hpl, shiftT_shift]; congr 1; omega
            clear hpl hq
            go_wp2_with fail
            refine (rends_in s _ j c rfl hlt hc h _).mono ?_
            rw [HE.out]
            rintro e wx ⟨rfl, rfl⟩
            go_wp2_with fail
            refine (rplain_any c _).mono ?_
            rw [HP.out]
            rintro e wx ⟨rfl, rfl⟩
            go_wp2_with (at_builtin; refine wpList_app1 rfl (.tmp 33) (.tmp 37) rfl (g + 1) u7 outs.length outs rfl OW.out _ c rfl rfl (by omega) hbase ?_; intro v1 w1' own1 bel1)
            go_roundw
            case rel =>
              refine ⟨j + 1, outs ++ [c], by omega, by omega, by rw [List.length_append]; simp; omega, by go_num, ?_, BL.out.trans bel1, SH2.out⟩
              rw [List.length_append]; exact own1
            case measure => simp [intOf]; omega
          · have HP : Hid (plainB c = false) := by simpa [Hid] using hpl
            obtain ⟨⟨B, K, X⟩, hX⟩ : ∃ x, escR ((bytesN s).drop (j + 1)) = x := ⟨_, rfl⟩
            have HX : Hid (escR ((bytesN s).drop (j + 1)) = (B, K, X)) := hX
            by_cases hX0 : X = 0
            · subst hX0
              have hok := escR_ok hX
              have hl := esc_len hok
              rw [List.length_drop, bytesN_length] at hl
              have hB : B < 256 := esc_byte (fun c hc => bytesN_lt s c (List.mem_of_mem_drop hc)) hok
              have SH2 : Hid (shiftT (j + K - (p + 1)) (outs ++ [B]) (T ((bytesN s).drop (j + K))) = TT) := by
                unfold Hid
                rw [← SH.out, HD.out, T_esc c _ B K HE.out hq HP.out hok, shiftT_shift, List.drop_drop]
                congr 1
                · omega
                · congr 2; omega
              clear hpl hq hok hX
              go_wp2_with fail
              refine (rends_in s _ j c rfl hlt hc h _).mono ?_
              rw [HE.out]
              rintro e wx ⟨rfl, rfl⟩
              go_wp2_with fail
              refine (rplain_any c _).mono ?_
              rw [HP.out]
              rintro e wx ⟨rfl, rfl⟩
              go_wp2_with fail
              refine (resc_as s _ j B K 0 rfl hlt h HX.out _).mono ?_
              rintro e wx ⟨rfl, rfl⟩
              go_wp2_with (at_builtin; refine wpList_app1 rfl (.tmp 58) (.tmp 60) rfl (g + 1) u7 outs.length outs rfl OW.out _ B rfl rfl (by omega) hbase ?_; intro v1 w1' own1 bel1)
              go_roundw
              case rel =>
                refine ⟨j + K, outs ++ [B], by omega, by omega, by rw [List.length_append]; simp; omega, by go_num, ?_, BL.out.trans bel1, SH2.out⟩
                rw [List.length_append]; exact own1
              case measure => simp [intOf]; omega
            · obtain ⟨her, rfl, rfl, h3132⟩ := escR_er hX hX0
              rcases h3132 with rfl | rfl
              · have HRV : Hid (textV p (.error (none, 31)) = R) := by
                  unfold Hid; rw [← HR.out, ← SH.out, HD.out, T_esc31 c _ HE.out hq HP.out her]; rfl
                clear hpl hq her hX hX0
                go_wp2_with fail
                refine (rends_in s _ j c rfl hlt hc h _).mono ?_
                rw [HE.out]
                rintro e wx ⟨rfl, rfl⟩
                go_wp2_with fail
                refine (rplain_any c _).mono ?_
                rw [HP.out]
                rintro e wx ⟨rfl, rfl⟩
                go_wp2_with fail
                refine (resc_as s _ j 0 0 31 rfl hlt h HX.out _).mono ?_
                rintro e wx ⟨rfl, rfl⟩
                go_wp2
                refine bodyPost_cell3 (g := g) (t := 39) rfl rfl rfl (set5_block _ _ _ _ _ _ _ _ _ _ _ _ _ _ HBK.out) Tryd.underlying39 rfl (by kernel_rfl) ?_
                exact ⟨by rw [← HRV.out]; rfl, by rw [← HG.out]; exact set5_below BW.out (Nat.le_refl _)⟩
              · have HRV : Hid (textV p (.error (some (0 + (j - (p + 1))), 32)) = R) := by
                  unfold Hid; rw [← HR.out, ← SH.out, HD.out, T_escE c _ 32 HE.out hq HP.out her (by omega)]; rfl
                clear hpl hq her hX hX0
                go_wp2_with fail
                refine (rends_in s _ j c rfl hlt hc h _).mono ?_
                rw [HE.out]
                rintro e wx ⟨rfl, rfl⟩
                go_wp2_with fail
                refine (rplain_any c _).mono ?_
                rw [HP.out]
                rintro e wx ⟨rfl, rfl⟩
                go_wp2_with fail
                refine (resc_as s _ j 0 0 32 rfl hlt h HX.out _).mono ?_
                rintro e wx ⟨rfl, rfl⟩
                go_wp2
                refine bodyPost_cell3 (g := g) (t := 39) rfl rfl rfl (set5_block _ _ _ _ _ _ _ _ _ _ _ _ _ _ HBK.out) Tryd.underlying39 rfl (by kernel_rfl) ?_
                refine ⟨?_, by rw [← HG.out]; exact set5_below BW.out (Nat.le_refl _)⟩
                rw [← HRV.out, textV_at p j 32 hpj]
                rfl
    · have hjs : s.size ≤ j := by omega
      have HRV : Hid (textV p (.error (none, 31)) = R) := by
        unfold Hid; rw [← HR.out, ← SH.out, show (bytesN s).drop j = [] from List.drop_eq_nil_of_le (by rw [bytesN_length]; omega), T_nil]; rfl
      go_wp2_with fail
      refine (rends_out s _ j rfl hjs h _).mono ?_
      rintro e wx ⟨rfl, rfl⟩
      go_wp2
      refine bodyPost_cell3 (g := g) (t := 39) rfl rfl rfl (set5_block _ _ _ _ _ _ _ _ _ _ _ _ _ _ HBK.out) Tryd.underlying39 rfl (by kernel_rfl) ?_
      exact ⟨by rw [← HRV.out]; rfl, by rw [← HG.out]; exact set5_below BW.out (Nat.le_refl _)⟩
end Go.Proofs.YteeoakbafbnkhaaDoor
