/-
  CONTRACT of the laws' own short: is a script short enough?
-/
import Derived.Test.YtcohgbelcbniaaaOps
namespace Go.Proofs.Ytcohgbelcbniaaa
open Go.RowKit
set_option linter.unusedVariables false

def ShortOk (ss : List Op) : Prop := ss.length ≤ 200 ∧ ∀ s ∈ ss, s.text.size ≤ 131072 ∧ s.words.length ≤ 131072
def ShPost (w : World) (ss : List Op) (e : Ending) (w' : World) : Prop := ∃ b, e = .returned (.bool b) ∧ (b = true → ShortOk ss) ∧ Below w.heap.size w w'
def SH (w : World) (ss : List Op) (nv iv : Value) (wr : World) : Prop := ∃ (k : Nat) (N : Int), k ≤ ss.length ∧ nv = .int .i64 N ∧ iv = .int .i64 (k : Int) ∧ N ≤ 131072 ∧ -1000000000000000 ≤ N ∧ (0 ≤ N → ∀ j, j < k → (ss.getD j dO).text.size ≤ 131072 ∧ (ss.getD j dO).words.length ≤ 131072) ∧ Below w.heap.size w wr
theorem short_all {ss : List Op} {n : Nat} (hn : ss.length = n) (h : ∀ j, j < n → (ss.getD j dO).text.size ≤ 131072 ∧ (ss.getD j dO).words.length ≤ 131072) : ∀ s ∈ ss, s.text.size ≤ 131072 ∧ s.words.length ≤ 131072 := by
  intro s hs
  obtain ⟨j, hj, rfl⟩ := List.getElem_of_mem hs
  have := h j (by omega)
  rwa [List.getD_eq_getElem?_getD, List.getElem?_eq_getElem hj] at this
theorem sh_next {k : Nat} {N T L M : Int} {ss : List Op} {s : Op} (hs : ss.getD k dO = s) (hT : T = s.text.size) (hL : L = s.words.length) (hM : 0 ≤ M) (hN : N ≤ 131072) (h : 0 ≤ N → ∀ j, j < k → (ss.getD j dO).text.size ≤ 131072 ∧ (ss.getD j dO).words.length ≤ 131072) : 0 ≤ N - T - L - M → ∀ j, j < k + 1 → (ss.getD j dO).text.size ≤ 131072 ∧ (ss.getD j dO).words.length ≤ 131072 := by
  intro h0 j hj
  by_cases hjk : j = k
  · subst hjk
    rw [hs]
    exact ⟨by omega, by omega⟩
  · exact h (by omega) j (by omega)
set_option maxRecDepth 100000 in
set_option maxHeartbeats 2000000 in
theorem shortS (w : World) (ao : Option Addr) (cap : Nat) (ss : List Op) (hx : OpsAt w ao cap ss) : Calls Try.prog 17 #[.slice ao ss.length cap] w (ShPost w ss) := by
  obtain ⟨n, hn⟩ : ∃ n, Hid (ss.length = n) := ⟨_, rfl⟩
  have hcl := hx.capl
  have hcm := hx.capm
  unfold maxLen at hcm
  rw [hn.out] at hcl ⊢
  have HX : Hid (OpsAt w ao cap ss) := hx
  clear hx
  go_enter Try.func17, Try.ntmps17
  go_wp2_with fail
  go_loopw [3, 4] (fun nv iv wr => SH w ss nv iv wr) (fun _ i _ => n - (intOf i).toNat)
  case atStart => exact ⟨0, 131072, Nat.zero_le _, rfl, rfl, by omega, by omega, fun _ j hj => by omega, Below.refl _ _⟩
  case round =>
    obtain ⟨k, N, hk, rfl, rfl, hN1, hN2, hall, hB⟩ := hrel
    rw [hn.out] at hk
    have HA : Hid (0 ≤ N → ∀ j, j < k → (ss.getD j dO).text.size ≤ 131072 ∧ (ss.getD j dO).words.length ≤ 131072) := hall
    have HB : Hid (Below w.heap.size w wr) := hB
    clear hall
    by_cases hneg : N < 0
    · clear hB
      by_cases hlt : k < n
      all_goals
        go_wp2_with fail
        go_ret
        exact ⟨_, rfl, fun e => by simp at e, HB.out⟩
    by_cases hlt : k < n
    · have HL : Hid (k < ss.length) := by unfold Hid; rw [hn.out]; exact hlt
      obtain ⟨b, o, s, rfl, hsd, hmem, hok, hbl, hc⟩ := HX.out.get hB HL.out
      have c1 := hc 1 (by omega)
      have c3 := hc 3 (by omega)
      have c4 := hc 4 (by omega)
      have htx := hok.txt
      have hwl := hok.wl
      have hcp := hok.ws.capm
      have hM := hok.m
      obtain ⟨T, hT⟩ : ∃ T, Hid (s.text = T) := ⟨_, rfl⟩
      have HN : Hid (∀ M : Int, 0 ≤ M → 0 ≤ N - (s.text.size : Int) - (s.words.length : Int) - M → ∀ j, j < k + 1 → (ss.getD j dO).text.size ≤ 131072 ∧ (ss.getD j dO).words.length ≤ 131072) := fun M hM => sh_next hsd rfl rfl hM hN1 HA.out
      obtain ⟨kd, tx, nn, mm, ws, ref, i, word, wo, wcap⟩ := s
      simp only [opV, List.getElem?_cons_zero, List.getElem?_cons_succ] at c1 c3 c4 htx hwl hM HN hcp
      obtain ⟨l, hlw⟩ : ∃ l, Hid (ws.length = l) := ⟨_, rfl⟩
      rw [hlw.out] at c4 hwl HN
      have HBN : Hid (∀ q, Below w.heap.size w (wr.drewN q)) := fun q => HB.out.trans ((below_drewN wr q).mono HB.out.size)
      clear hB hok hmem hc hsd hT HA hbl
      go_wp2_with fail
      go_quiet (fail)
      go_wp2_with fail
      go_roundw
      case rel => exact ⟨k + 1, N - (tx.size : Int) - (l : Int) - min (max mm 0) 131072, HL.out, rfl, by simp, by omega, by omega, HN.out (min (max mm 0) 131072) (by omega), HBN.out _⟩
      case measure => simp [intOf]; omega
    · have hkn : k = n := by omega
      subst hkn
      clear hB
      by_cases hl2 : k ≤ 200
      all_goals
        go_wp2_with fail
        go_ret
      · exact ⟨_, rfl, fun _ => ⟨by rw [hn.out]; exact hl2, short_all hn.out (HA.out (by omega))⟩, HB.out⟩
      · exact ⟨_, rfl, fun e => by simp at e; omega, HB.out⟩
end Go.Proofs.Ytcohgbelcbniaaa
