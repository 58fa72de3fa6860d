import Derived.Test.YtmhnbklchnnbaaaGreatDoorJXMid
import Derived.BigRegion
import Derived.Deep.RegionHeld3
import Derived.Deep.RegionWith
set_option maxHeartbeats 2000000
set_option maxRecDepth 100000
namespace Go.Proofs.YtmhnbklchnnbaaaGreatDoor
open Go.RowKit
set_option linter.unusedVariables false
theorem plain_is (c : Nat) (h : endsB c = false) (h34 : ¬ c = 34) (h92 : ¬ c = 92) : plainB c = true := by
  simp [endsB] at h
  simp [plainB]; omega
theorem T_piece0 (c : Nat) (r : List Nat) (hr : ∀ d ∈ c :: r, d < 256) (h34 : ¬ c = 34) (B K : Nat) (h : pieceR (c :: r) = (B, K, 0)) : T (c :: r) = shiftT K [B] (T ((c :: r).drop K)) ∧ 1 ≤ K ∧ K ≤ r.length + 1 ∧ B < 256 := by
  by_cases he : endsB c = true
  · rw [piece_ends _ _ he] at h; simp at h
  · have he' : endsB c = false := by simpa using he
    by_cases h92 : c = 92
    · subst h92
      rw [piece_esc] at h
      have hok := escR_ok h
      have hl := esc_len hok
      refine ⟨?_, by omega, by omega, esc_byte (fun d hd => hr d (List.mem_cons_of_mem _ hd)) hok⟩
      rw [T_esc 92 r B K he' (by omega) rfl hok]
      obtain ⟨m, rfl⟩ : ∃ m, K = m + 1 := ⟨K - 1, by omega⟩
      rfl
    · rw [piece_self _ _ he' h92] at h
      obtain ⟨rfl, h2⟩ := Prod.mk.inj h
      obtain ⟨rfl, _⟩ := Prod.mk.inj h2
      exact ⟨T_plain c r he' h34 (plain_is c he' h34 h92), by omega, by omega, hr c (by simp)⟩
theorem T_pieceE (c : Nat) (r : List Nat) (h34 : ¬ c = 34) (B K X : Nat) (h : pieceR (c :: r) = (B, K, X)) (h0 : ¬ X = 0) : B = 0 ∧ K = 0 ∧ ((X = 31 ∧ T (c :: r) = .error (none, 31)) ∨ (X = 32 ∧ T (c :: r) = .error (some 0, 32))) := by
  by_cases he : endsB c = true
  · rw [piece_ends _ _ he] at h
    obtain ⟨rfl, h2⟩ := Prod.mk.inj h
    obtain ⟨rfl, rfl⟩ := Prod.mk.inj h2
    exact ⟨rfl, rfl, .inl ⟨rfl, T_ends c r he⟩⟩
  · have he' : endsB c = false := by simpa using he
    by_cases h92 : c = 92
    · subst h92
      rw [piece_esc] at h
      obtain ⟨her, rfl, rfl, h3132⟩ := escR_er h h0
      refine ⟨rfl, rfl, ?_⟩
      rcases h3132 with rfl | rfl
      · exact .inl ⟨rfl, T_esc31 92 r he' (by omega) rfl her⟩
      · exact .inr ⟨rfl, T_escE 92 r 32 he' (by omega) rfl her (by omega)⟩
    · rw [piece_self _ _ he' h92] at h
      obtain ⟨rfl, h2⟩ := Prod.mk.inj h
      obtain ⟨rfl, h3⟩ := Prod.mk.inj h2
      exact absurd h3.symm h0
def textF (p : Nat) (t : Except (Option Nat × Nat) (List Nat × Nat)) : Value :=
  match t with
  | .ok (out, m) => foundOk 3 0 p ((p + 1 + m : Nat) : Int) (strN out)
  | .error (none, e) => foundNo p p e
  | .error (some q, e) => foundNo p ((p + 1 + q : Nat) : Int) e
theorem textF_ok (p j : Nat) (outs : List Nat) (h : p + 1 ≤ j) : textF p (.ok (outs, 1 + (j - (p + 1)))) = foundOk 3 0 p ((j : Int) + 1) (strN outs) := by
  show foundOk 3 0 p ((p + 1 + (1 + (j - (p + 1))) : Nat) : Int) _ = _
  rw [show ((p + 1 + (1 + (j - (p + 1))) : Nat) : Int) = (j : Int) + 1 by omega]
theorem textF_at (p j e : Nat) (h : p + 1 ≤ j) : textF p (.error (some (0 + (j - (p + 1))), e)) = foundNo p j e := by
  show foundNo p ((p + 1 + (0 + (j - (p + 1))) : Nat) : Int) e = _
  rw [show ((p + 1 + (0 + (j - (p + 1))) : Nat) : Int) = (j : Int) by omega]
theorem own1_kept {w w' : World} {B n : Nat} {v : Value} {xs : List Value} (h : w.ownsRow B 5 1 v n xs) (hb : Below w.heap.size w w') : w'.ownsRow B 5 1 v n xs := by
  refine ⟨h.1, ?_⟩
  rcases h.2 with hn | ⟨g, cap, cur, hv, hB, hg, rest⟩
  · exact .inl hn
  · exact .inr ⟨g, cap, cur, hv, hB, by rw [hb.block g (Array.getElem?_eq_some_iff.1 hg).1]; exact hg, rest⟩
theorem xtext_as (s : ByteArray) (y : Int) (p : Nat) (R : Value) (hy : y = p) (hp : p < s.size) (h : s.size ≤ 1048576) (hR : textF p (T ((bytesN s).drop (p + 1))) = R) (w : World) :
    Calls Tryz.prog 92 #[.string s, .int .i64 y] w fun e w' => e = .returned R ∧ Below w.heap.size w w' := by
  subst hy
  obtain ⟨TT, hTT⟩ : ∃ TT, Hid (T ((bytesN s).drop (p + 1)) = TT) := ⟨_, rfl⟩
  have HR : Hid (textF p TT = R) := by unfold Hid; rw [← hTT.out]; exact hR
  clear hR
  obtain ⟨g, hg⟩ : ∃ g, g = w.heap.size := ⟨_, rfl⟩
  have HG : Hid (g = w.heap.size) := hg
  go_enter Tryz.func92, Tryz.ntmps92
  go_wp2_with fail
  rw [← hg]
  clear hg
  obtain ⟨w1, hw1⟩ : ∃ w1, w1 = w.alloc (.cells #[.int .u8 0, .string ⟨#[]⟩, .int .u64 0, .int .i64 0, .int .i64 0, .int .i64 0, .int .i64 0] 79) := ⟨_, rfl⟩
  rw [← hw1]
  have HW1 : Hid (w1 = w.alloc (.cells #[.int .u8 0, .string ⟨#[]⟩, .int .u64 0, .int .i64 0, .int .i64 0, .int .i64 0, .int .i64 0] 79)) := hw1
  have HB0 : Hid (Below g w w1) := by unfold Hid; rw [hw1]; exact (Below.refl _ _).alloc (by rw [HG.out]; exact Nat.le_refl _) _
  have HS1 : Hid (w1.heap.size = g + 1) := by unfold Hid; rw [hw1, HG.out]; exact Array.size_push _
  clear hw1
  go_loopw [5, 6] (fun v i wr => TextRel s w1 (g + 1) p TT v i wr) (fun _ i _ => s.size - (intOf i).toNat)
  case atStart => exact ⟨p + 1, [], by omega, by omega, by simp, by go_num, World.ownsRow_nil _ _ _ _, Below.refl _ _, by rw [Nat.sub_self, shiftT_zero]; exact hTT.out⟩
  case round =>
    obtain ⟨j, outs, hpj, hj, hlen, rfl, hown, hbel, hsh⟩ := hrel
    have hblk0 : wr.heap[g]? = some zeroF := by
      rw [hbel.block g (by omega), HW1.out, HG.out]; exact heap_alloc_new w _
    have HBK0 : Hid (wr.heap[g]? = some zeroF) := hblk0
    have OW : Hid (wr.ownsRow (g + 1) 5 1 u5 outs.length (nums outs)) := hown
    have BL : Hid (Below (g + 1) w1 wr) := hbel
    have BW : Hid (Below g w wr) := HB0.out.trans (hbel.mono (by omega))
    have hbase : g + 1 ≤ wr.heap.size := by have := hbel.size; rw [HS1.out] at this; exact this
    have SH : Hid (shiftT (j - (p + 1)) outs (T ((bytesN s).drop j)) = TT) := hsh
    have hl2 : outs.length ≤ 1048576 := by omega
    clear hblk0 hown hbel hsh
    have HKEEP : Hid (∀ w2, Below wr.heap.size wr w2 → w2.heap[g]? = some zeroF ∧ Below g w w2 ∧ g + 1 ≤ w2.heap.size ∧ w2.ownsRow (g + 1) 5 1 u5 outs.length (nums outs) ∧ Below (g + 1) w1 w2) := by
      intro w2 hb2
      exact ⟨by rw [hb2.block g (by omega)]; exact HBK0.out, BW.out.trans (hb2.mono (by omega)), Nat.le_trans hbase hb2.size, own1_kept OW.out hb2, BL.out.trans (hb2.mono hbase)⟩
    by_cases hq : (bytesN s)[j]? = some 34
    · obtain ⟨hjl, hj34⟩ := List.getElem?_eq_some_iff.1 hq
      have hlt : j < s.size := by rw [bytesN_length] at hjl; exact hjl
      have hc : (s[j]'hlt).toNat = 34 := by
        have := bytesN_get s j hlt
        rw [hq] at this
        exact (Option.some.inj this).symm
      have HRV : Hid (textF p (.ok (outs, 1 + (j - (p + 1)))) = R) := by
        unfold Hid; rw [← HR.out, ← SH.out, bytesN_drop s j hlt, hc, T_quote]; simp [shiftT]
      have hcv := conv_own OW.out
      have hblk := HBK0.out
      unfold zeroF at hblk
      have c0 : wr.cell? ⟨g, 0, none⟩ = some (.int .u8 0) := cell_of_row _ g 0 _ _ _ hblk
      have c1 : wr.cell? ⟨g, 1, none⟩ = some (.string ⟨#[]⟩) := cell_of_row _ g 1 _ _ _ hblk
      have c2 : wr.cell? ⟨g, 2, none⟩ = some (.int .u64 0) := cell_of_row _ g 2 _ _ _ hblk
      have c3 : wr.cell? ⟨g, 3, none⟩ = some (.int .i64 0) := cell_of_row _ g 3 _ _ _ hblk
      have c4 : wr.cell? ⟨g, 4, none⟩ = some (.int .i64 0) := cell_of_row _ g 4 _ _ _ hblk
      have c5 : wr.cell? ⟨g, 5, none⟩ = some (.int .i64 0) := cell_of_row _ g 5 _ _ _ hblk
      have c6 : wr.cell? ⟨g, 6, none⟩ = some (.int .i64 0) := cell_of_row _ g 6 _ _ _ hblk
      have f0 : ∀ j, wr.frozen? ⟨g, j, none⟩ = false := fun j => by simp [World.frozen?, hblk]
      have HBK : Hid (wr.heap[g]? = some (.cells #[.int .u8 0, .string ⟨#[]⟩, .int .u64 0, .int .i64 0, .int .i64 0, .int .i64 0, .int .i64 0] 79)) := hblk
      clear hq hjl hj34 hblk
      go_wp2
      refine bodyPost_cell1 (g := g) (t := 79) rfl rfl rfl (set7_block _ _ _ _ _ _ _ _ _ _ _ _ _ _ _ _ _ _ HBK.out) Tryz.underlying79 rfl (by kernel_rfl) ?_
      refine ⟨?_, by rw [← HG.out]; exact set7_below BW.out (Nat.le_refl _)⟩
      rw [← HRV.out, textF_ok p j outs hpj]
      rfl
    · have hcond : (j < s.size ∧ ∃ c, ∃ hlt : j < s.size, (s[j]'hlt).toNat = c ∧ ¬ c = 34) ∨ s.size ≤ j := by
        by_cases hlt : j < s.size
        · refine .inl ⟨hlt, _, hlt, rfl, ?_⟩
          intro e
          exact hq (by rw [bytesN_get s j hlt, e])
        · exact .inr (by omega)
      clear hq
      rcases hcond with ⟨hlt, c, _, hc, h34⟩ | hjs
      · have hdrop := bytesN_drop s j hlt
        rw [hc] at hdrop
        have HD : Hid ((bytesN s).drop j = c :: (bytesN s).drop (j + 1)) := hdrop
        have hq0 : ((c : Int) != 34) = true := by simp; omega
        obtain ⟨⟨B, K, X⟩, hX⟩ : ∃ x, pieceR ((bytesN s).drop j) = x := ⟨_, rfl⟩
        have HX : Hid (pieceR ((bytesN s).drop j) = (B, K, X)) := hX
        rw [hdrop] at hX
        by_cases hX0 : X = 0
        · subst hX0
          obtain ⟨hT, hK1, hK2, hB⟩ := T_piece0 c _ (by rw [← hdrop]; exact fun d hd => bytesN_lt s d (List.mem_of_mem_drop hd)) h34 B K hX
          rw [List.length_drop, bytesN_length] at hK2
          have SH2 : Hid (shiftT (j + K - (p + 1)) (outs ++ [B]) (T ((bytesN s).drop (j + K))) = TT) := by
            unfold Hid
            rw [← SH.out, HD.out, hT, shiftT_shift, ← HD.out, List.drop_drop]
            congr 1; omega
          have hK3 : j + K ≤ s.size := by omega
          clear hdrop hX hT h34
          go_wp2_with fail
          refine (xpiece_as s _ j B K 0 rfl hj h HX.out _).mono ?_
          rintro e w2 ⟨rfl, hb2⟩
          obtain ⟨hz, hbw, hsz2, OW2, BL2⟩ := HKEEP.out w2 hb2
          have OW3 : Hid (w2.ownsRow (g + 1) 5 1 u5 outs.length (nums outs)) := OW2
          have BL3 : Hid (Below (g + 1) w1 w2) := BL2
          clear hb2 hz hbw OW2 BL2
          go_wp2_with (at_builtin; refine wpList_app1 rfl (.tmp 42) (.tmp 44) rfl (g + 1) u5 outs.length outs rfl OW3.out _ B rfl rfl (by omega) hsz2 ?_; intro v1 w1' own1 bel1)
          go_roundw
          case rel =>
            refine ⟨j + K, outs ++ [B], by omega, by omega, by rw [List.length_append]; simp; omega, by go_num, ?_, BL3.out.trans bel1, SH2.out⟩
            rw [List.length_append]; exact own1
          case measure => simp [intOf]; omega
        · obtain ⟨rfl, rfl, h3132⟩ := T_pieceE c _ h34 B K X hX hX0
          rcases h3132 with ⟨rfl, hT⟩ | ⟨rfl, hT⟩
          · have HRV : Hid (textF p (.error (none, 31)) = R) := by
              unfold Hid; rw [← HR.out, ← SH.out, HD.out, hT]; rfl
            clear hdrop hX hT h34 hX0
            go_wp2_with fail
            refine (xpiece_as s _ j 0 0 31 rfl hj h HX.out _).mono ?_
            rintro e w2 ⟨rfl, hb2⟩
            go_wp2_with fail
            refine (xfault_any p p 31 _).mono ?_
            rintro e w3 ⟨rfl, hb3⟩
            obtain ⟨hblk, hbw, hsz2, _, _⟩ := HKEEP.out w3 (below_chain hb2 hb3 (Nat.le_refl _))
            unfold zeroF at hblk
            unfold foundNo
            have HBW : Hid (Below g w w3) := hbw
            have c0 : w3.cell? ⟨g, 0, none⟩ = some (.int .u8 0) := cell_of_row _ g 0 _ _ _ hblk
            have c1 : w3.cell? ⟨g, 1, none⟩ = some (.string ⟨#[]⟩) := cell_of_row _ g 1 _ _ _ hblk
            have c2 : w3.cell? ⟨g, 2, none⟩ = some (.int .u64 0) := cell_of_row _ g 2 _ _ _ hblk
            have c3 : w3.cell? ⟨g, 3, none⟩ = some (.int .i64 0) := cell_of_row _ g 3 _ _ _ hblk
            have c4 : w3.cell? ⟨g, 4, none⟩ = some (.int .i64 0) := cell_of_row _ g 4 _ _ _ hblk
            have c5 : w3.cell? ⟨g, 5, none⟩ = some (.int .i64 0) := cell_of_row _ g 5 _ _ _ hblk
            have c6 : w3.cell? ⟨g, 6, none⟩ = some (.int .i64 0) := cell_of_row _ g 6 _ _ _ hblk
            have f0 : ∀ j, w3.frozen? ⟨g, j, none⟩ = false := fun j => by simp [World.frozen?, hblk]
            have HBK : Hid (w3.heap[g]? = some (.cells #[.int .u8 0, .string ⟨#[]⟩, .int .u64 0, .int .i64 0, .int .i64 0, .int .i64 0, .int .i64 0] 79)) := hblk
            clear hblk hb2 hb3 hbw
            go_wp2
            refine bodyPost_cell1 (g := g) (t := 79) rfl rfl rfl (set7_block _ _ _ _ _ _ _ _ _ _ _ _ _ _ _ _ _ _ HBK.out) Tryz.underlying79 rfl (by kernel_rfl) ?_
            exact ⟨by rw [← HRV.out]; rfl, by rw [← HG.out]; exact set7_below HBW.out (Nat.le_refl _)⟩
          · have HRV : Hid (textF p (.error (some (0 + (j - (p + 1))), 32)) = R) := by
              unfold Hid; rw [← HR.out, ← SH.out, HD.out, hT]; rfl
            clear hdrop hX hT h34 hX0
            go_wp2_with fail
            refine (xpiece_as s _ j 0 0 32 rfl hj h HX.out _).mono ?_
            rintro e w2 ⟨rfl, hb2⟩
            go_wp2_with fail
            refine (xfault_any p j 32 _).mono ?_
            rintro e w3 ⟨rfl, hb3⟩
            obtain ⟨hblk, hbw, hsz2, _, _⟩ := HKEEP.out w3 (below_chain hb2 hb3 (Nat.le_refl _))
            unfold zeroF at hblk
            unfold foundNo
            have HBW : Hid (Below g w w3) := hbw
            have c0 : w3.cell? ⟨g, 0, none⟩ = some (.int .u8 0) := cell_of_row _ g 0 _ _ _ hblk
            have c1 : w3.cell? ⟨g, 1, none⟩ = some (.string ⟨#[]⟩) := cell_of_row _ g 1 _ _ _ hblk
            have c2 : w3.cell? ⟨g, 2, none⟩ = some (.int .u64 0) := cell_of_row _ g 2 _ _ _ hblk
            have c3 : w3.cell? ⟨g, 3, none⟩ = some (.int .i64 0) := cell_of_row _ g 3 _ _ _ hblk
            have c4 : w3.cell? ⟨g, 4, none⟩ = some (.int .i64 0) := cell_of_row _ g 4 _ _ _ hblk
            have c5 : w3.cell? ⟨g, 5, none⟩ = some (.int .i64 0) := cell_of_row _ g 5 _ _ _ hblk
            have c6 : w3.cell? ⟨g, 6, none⟩ = some (.int .i64 0) := cell_of_row _ g 6 _ _ _ hblk
            have f0 : ∀ j, w3.frozen? ⟨g, j, none⟩ = false := fun j => by simp [World.frozen?, hblk]
            have HBK : Hid (w3.heap[g]? = some (.cells #[.int .u8 0, .string ⟨#[]⟩, .int .u64 0, .int .i64 0, .int .i64 0, .int .i64 0, .int .i64 0] 79)) := hblk
            clear hblk hb2 hb3 hbw
            go_wp2
            refine bodyPost_cell1 (g := g) (t := 79) rfl rfl rfl (set7_block _ _ _ _ _ _ _ _ _ _ _ _ _ _ _ _ _ _ HBK.out) Tryz.underlying79 rfl (by kernel_rfl) ?_
            refine ⟨?_, by rw [← HG.out]; exact set7_below HBW.out (Nat.le_refl _)⟩
            rw [← HRV.out, textF_at p j 32 hpj]
            rfl
      · have hnil : (bytesN s).drop j = [] := List.drop_eq_nil_of_le (by rw [bytesN_length]; omega)
        have HX : Hid (pieceR ((bytesN s).drop j) = (0, 0, 31)) := by unfold Hid; rw [hnil]; rfl
        have HRV : Hid (textF p (.error (none, 31)) = R) := by
          unfold Hid; rw [← HR.out, ← SH.out, hnil, T_nil]; rfl
        clear hnil
        go_wp2_with fail
        refine (xpiece_as s _ j 0 0 31 rfl hj h HX.out _).mono ?_
        rintro e w2 ⟨rfl, hb2⟩
        go_wp2_with fail
        refine (xfault_any p p 31 _).mono ?_
        rintro e w3 ⟨rfl, hb3⟩
        obtain ⟨hblk, hbw, hsz2, _, _⟩ := HKEEP.out w3 (below_chain hb2 hb3 (Nat.le_refl _))
        unfold zeroF at hblk
        unfold foundNo
        have HBW : Hid (Below g w w3) := hbw
        have c0 : w3.cell? ⟨g, 0, none⟩ = some (.int .u8 0) := cell_of_row _ g 0 _ _ _ hblk
        have c1 : w3.cell? ⟨g, 1, none⟩ = some (.string ⟨#[]⟩) := cell_of_row _ g 1 _ _ _ hblk
        have c2 : w3.cell? ⟨g, 2, none⟩ = some (.int .u64 0) := cell_of_row _ g 2 _ _ _ hblk
        have c3 : w3.cell? ⟨g, 3, none⟩ = some (.int .i64 0) := cell_of_row _ g 3 _ _ _ hblk
        have c4 : w3.cell? ⟨g, 4, none⟩ = some (.int .i64 0) := cell_of_row _ g 4 _ _ _ hblk
        have c5 : w3.cell? ⟨g, 5, none⟩ = some (.int .i64 0) := cell_of_row _ g 5 _ _ _ hblk
        have c6 : w3.cell? ⟨g, 6, none⟩ = some (.int .i64 0) := cell_of_row _ g 6 _ _ _ hblk
        have f0 : ∀ j, w3.frozen? ⟨g, j, none⟩ = false := fun j => by simp [World.frozen?, hblk]
        have HBK : Hid (w3.heap[g]? = some (.cells #[.int .u8 0, .string ⟨#[]⟩, .int .u64 0, .int .i64 0, .int .i64 0, .int .i64 0, .int .i64 0] 79)) := hblk
        clear hblk hb2 hb3 hbw
        go_wp2
        refine bodyPost_cell1 (g := g) (t := 79) rfl rfl rfl (set7_block _ _ _ _ _ _ _ _ _ _ _ _ _ _ _ _ _ _ HBK.out) Tryz.underlying79 rfl (by kernel_rfl) ?_
        exact ⟨by rw [← HRV.out]; rfl, by rw [← HG.out]; exact set7_below HBW.out (Nat.le_refl _)⟩
def sfxS : List ByteArray := [⟨#[105, 56]⟩, ⟨#[105, 51, 50]⟩, ⟨#[105, 54, 52]⟩]
theorem has_split {l y : List Nat} (h : hasB l y = true) : l = y ++ l.drop y.length := by
  unfold hasB at h
  simp only [decide_eq_true_eq] at h
  exact (List.take_append_drop y.length l).symm.trans (by rw [h])
theorem first_cases (l : List Nat) : (firstW l sfxS = ⟨#[105, 56]⟩ ∧ hasB l [105, 56] = true) ∨ (firstW l sfxS = ⟨#[105, 51, 50]⟩ ∧ hasB l [105, 51, 50] = true) ∨ (firstW l sfxS = ⟨#[105, 54, 52]⟩ ∧ hasB l [105, 54, 52] = true) ∨
    (firstW l sfxS = ⟨#[]⟩ ∧ hasB l [105, 56] = false ∧ hasB l [105, 51, 50] = false ∧ hasB l [105, 54, 52] = false) := by
  have b1 : bytesN ⟨#[105, 56]⟩ = [105, 56] := rfl
  have b2 : bytesN ⟨#[105, 51, 50]⟩ = [105, 51, 50] := rfl
  have b3 : bytesN ⟨#[105, 54, 52]⟩ = [105, 54, 52] := rfl
  unfold firstW sfxS
  by_cases h1 : hasB l [105, 56] = true
  · exact .inl ⟨by simp [b1, h1], h1⟩
  · have h1' : hasB l [105, 56] = false := by simpa using h1
    by_cases h2 : hasB l [105, 51, 50] = true
    · exact .inr (.inl ⟨by simp [b1, b2, h1', h2], h2⟩)
    · have h2' : hasB l [105, 51, 50] = false := by simpa using h2
      by_cases h3 : hasB l [105, 54, 52] = true
      · exact .inr (.inr (.inl ⟨by simp [b1, b2, b3, h1', h2', h3], h3⟩))
      · have h3' : hasB l [105, 54, 52] = false := by simpa using h3
        exact .inr (.inr (.inr ⟨by simp [b1, b2, b3, h1', h2', h3'], h1', h2', h3'⟩))
theorem take_stop (t : List Nat) (h : ∀ c r, t = c :: r → wordB c = false) : t.takeWhile wordB = [] := by
  cases t with
  | nil => rfl
  | cons c r => rw [List.takeWhile_cons, if_neg (by simp [h c r rfl])]
theorem sfx_end (l : List Nat) (x : ByteArray) (hx : firstW l sfxS = x) (h : ∀ c r, l.drop x.size = c :: r → wordB c = false) : l.takeWhile wordB = bytesN x ∧ sfxB (bytesN x) = true := by
  subst hx
  rcases first_cases l with ⟨e, hb⟩ | ⟨e, hb⟩ | ⟨e, hb⟩ | ⟨e, _, _, _⟩
  · rw [e] at h ⊢
    refine ⟨?_, rfl⟩
    have ht := take_stop (l.drop 2) h
    have hl := has_split hb
    generalize l.drop [105, 56].length = t at hl
    rw [hl] at ht ⊢
    simp only [List.drop_succ_cons, List.drop_zero, List.cons_append, List.nil_append] at ht ⊢
    simp [ht, wordB, letterB, digitB]; rfl
  · rw [e] at h ⊢
    refine ⟨?_, rfl⟩
    have ht := take_stop (l.drop 3) h
    have hl := has_split hb
    generalize l.drop [105, 51, 50].length = t at hl
    rw [hl] at ht ⊢
    simp only [List.drop_succ_cons, List.drop_zero, List.cons_append, List.nil_append] at ht ⊢
    simp [ht, wordB, letterB, digitB]; rfl
  · rw [e] at h ⊢
    refine ⟨?_, rfl⟩
    have ht := take_stop (l.drop 3) h
    have hl := has_split hb
    generalize l.drop [105, 54, 52].length = t at hl
    rw [hl] at ht ⊢
    simp only [List.drop_succ_cons, List.drop_zero, List.cons_append, List.nil_append] at ht ⊢
    simp [ht, wordB, letterB, digitB]; rfl
  · rw [e] at h ⊢
    exact ⟨take_stop l h, rfl⟩
theorem sfx_more (l : List Nat) (x : ByteArray) (hx : firstW l sfxS = x) (c : Nat) (r : List Nat) (h : l.drop x.size = c :: r) (hc : wordB c = true) : sfxB (l.takeWhile wordB) = false := by
  subst hx
  rcases first_cases l with ⟨e, hb⟩ | ⟨e, hb⟩ | ⟨e, hb⟩ | ⟨e, h1, h2, h3⟩
  · rw [e] at h
    have h : l.drop 2 = c :: r := h
    have hl : l = [105, 56] ++ l.drop 2 := has_split hb
    rw [h] at hl
    rw [hl]
    have hc2 := hc
    simp only [List.cons_append, List.nil_append, List.takeWhile_cons, hc2, if_true]
    simp [wordB, letterB, digitB, sfxB]
  · rw [e] at h
    have h : l.drop 3 = c :: r := h
    have hl : l = [105, 51, 50] ++ l.drop 3 := has_split hb
    rw [h] at hl
    rw [hl]
    have hc2 := hc
    simp only [List.cons_append, List.nil_append, List.takeWhile_cons, hc2, if_true]
    simp [wordB, letterB, digitB, sfxB]
  · rw [e] at h
    have h : l.drop 3 = c :: r := h
    have hl : l = [105, 54, 52] ++ l.drop 3 := has_split hb
    rw [h] at hl
    rw [hl]
    have hc2 := hc
    simp only [List.cons_append, List.nil_append, List.takeWhile_cons, hc2, if_true]
    simp [wordB, letterB, digitB, sfxB]
  · rw [e] at h
    have h : l = c :: r := h
    have ht := takeWhile_take wordB l
    have hne : ¬ l.takeWhile wordB = [] := by rw [h, List.takeWhile_cons, if_pos hc]; simp
    simp only [sfxB, Bool.or_eq_false_iff, decide_eq_false_iff_not]
    refine ⟨⟨⟨hne, ?_⟩, ?_⟩, ?_⟩
    · intro q; rw [q] at ht; simp [hasB] at h1; exact h1 ht
    · intro q; rw [q] at ht; simp [hasB] at h2; exact h2 ht
    · intro q; rw [q] at ht; simp [hasB] at h3; exact h3 ht
end Go.Proofs.YtmhnbklchnnbaaaGreatDoor
