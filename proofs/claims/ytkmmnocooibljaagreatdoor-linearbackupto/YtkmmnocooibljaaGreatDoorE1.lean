/-
  Closed runs reckoned by the kernel, part 1: memory and values under a renaming.
-/
import Derived.Calls
import Derived.OrdersHeld
import Derived.Below
set_option linter.all false

namespace Go.Eng
open Go.RowKit

/-- Where an abstract block lies: the true block, how far its cells are moved, how many elements it has more. -/
abbrev PM := Nat → Option (Nat × Nat × Nat)

def PM.le (r s : PM) : Prop := ∀ i p, r i = some p → s i = some p

theorem PM.le.refl (r : PM) : r.le r := fun _ _ h => h
theorem PM.le.trans {r s t : PM} (h : r.le s) (k : s.le t) : r.le t := fun i p hp => k i p (h i p hp)

def AR (r : PM) (a b : Addr) : Prop := ∃ s x, r a.block = some (b.block, s, x) ∧ b.off = a.off + s ∧ a.spot = none ∧ b.spot = none

def FnR (r : PM) : Fn → Fn → Prop
  | .func f, .func g => f = g
  | .yield l, .yield k => ∃ s x, r l = some (k, s, x)
  | _, _ => False

def VR (r : PM) : Value → Value → Prop
  | .bool a, .bool b => a = b
  | .int k n, .int k' n' => k = k' ∧ n = n'
  | .string s, .string s' => s = s'
  | .pointer none, .pointer none => True
  | .pointer (some a), .pointer (some b) => AR r a b
  | .slice none l c, .slice none l' c' => l = l' ∧ c = c'
  | .slice (some a) l c, .slice (some b) l' c' => l' = l ∧ ((c = 0 ∧ (a.spot = some 1 ∨ a.spot = some 0 ∧ l = 0 ∧ c' = 0)) ∨ ∃ s x, r a.block = some (b.block, s, x) ∧ b.off = a.off + s ∧ a.spot = none ∧ b.spot = none ∧ c' = c + x)
  | .map none, .map none => True
  | .map (some a), .map (some b) => ∃ s x, r a = some (b, s, x)
  | .func f ⟨xs⟩ ⟨ys⟩, .func g ⟨xs'⟩ ⟨ys'⟩ => FnR r f g ∧ go xs xs' ∧ go ys ys'
  | .nilFunc, .nilFunc => True
  | .iface t v, .iface t' v' => t = t' ∧ VR r v v'
  | .nilIface, .nilIface => True
  | .agg ⟨xs⟩, .agg ⟨ys⟩ => go xs ys
  | .tuple ⟨xs⟩, .tuple ⟨ys⟩ => go xs ys
  | _, _ => False
  where go : List Value → List Value → Prop
  | [], [] => True
  | a :: l, b :: m => VR r a b ∧ go l m
  | _, _ => False

/-- Rows of values. -/
abbrev VL (r : PM) (xs ys : List Value) : Prop := VR.go r xs ys

theorem AR.mono {r s : PM} (h : r.le s) {a b : Addr} : AR r a b → AR s a b := fun ⟨p, x, e, o⟩ => ⟨p, x, h _ _ e, o⟩

theorem FnR.mono {r s : PM} (h : r.le s) : ∀ {f g : Fn}, FnR r f g → FnR s f g := by
  intro f g hf
  cases f <;> cases g <;> simp only [FnR] at hf ⊢ <;> first | exact hf | (obtain ⟨p, x, e⟩ := hf; exact ⟨p, x, h _ _ e⟩)

theorem vrec {M : Value → Prop} {L : List Value → Prop} (hb : ∀ b, M (.bool b)) (hi : ∀ k n, M (.int k n)) (hf : ∀ k n, M (.float k n)) (hc : ∀ k n m, M (.complex k n m)) (hs : ∀ s, M (.string s))
    (hp : ∀ a, M (.pointer a)) (hsl : ∀ a l c, M (.slice a l c)) (hm : ∀ a, M (.map a)) (hch : ∀ a, M (.chan a)) (hfn : ∀ f xs ys, L xs → L ys → M (.func f ⟨xs⟩ ⟨ys⟩)) (hnf : M .nilFunc)
    (hif : ∀ t v, M v → M (.iface t v)) (hni : M .nilIface) (hag : ∀ xs, L xs → M (.agg ⟨xs⟩)) (htu : ∀ xs, L xs → M (.tuple ⟨xs⟩)) (hn : L []) (hcs : ∀ a l, M a → L l → L (a :: l)) (v : Value) : M v :=
  Value.rec (motive_1 := M) (motive_2 := fun xs => L xs.toList) (motive_3 := L) hb hi hf hc hs hp hsl hm hch (fun f ⟨xs⟩ ⟨ys⟩ h k => hfn f xs ys h k) hnf hif hni (fun ⟨xs⟩ h => hag xs h) (fun ⟨xs⟩ h => htu xs h) (fun _ h => h) hn hcs v

theorem VR.mono {r s : PM} (h : r.le s) {v w : Value} : VR r v w → VR s v w := by
  revert w
  refine vrec (M := fun v => ∀ {w}, VR r v w → VR s v w) (L := fun xs => ∀ {ys}, VL r xs ys → VL s xs ys) ?_ ?_ ?_ ?_ ?_ ?_ ?_ ?_ ?_ ?_ ?_ ?_ ?_ ?_ ?_ ?_ ?_ v
  case _ => intro b w hv; cases w <;> simp only [VR] at hv ⊢; exact hv
  case _ => intro k n w hv; cases w <;> simp only [VR] at hv ⊢; exact hv
  case _ => intro k n w hv; cases w <;> simp only [VR] at hv
  case _ => intro k n m w hv; cases w <;> simp only [VR] at hv
  case _ => intro b w hv; cases w <;> simp only [VR] at hv ⊢; exact hv
  case _ => intro a w hv; cases w with
    | pointer b => cases a <;> cases b <;> simp only [VR] at hv ⊢; exact hv.mono h
    | _ => cases a <;> simp only [VR] at hv
  case _ => intro a l c w hv; cases w with
    | slice b l' c' => cases a <;> cases b <;> simp only [VR] at hv ⊢ <;> first | exact hv | exact ⟨hv.1, hv.2.elim (fun q => .inl q) fun ⟨p, x, e, o⟩ => .inr ⟨p, x, h _ _ e, o⟩⟩
    | _ => cases a <;> simp only [VR] at hv
  case _ => intro a w hv; cases w with
    | map b => cases a <;> cases b <;> simp only [VR] at hv ⊢; obtain ⟨p, x, e⟩ := hv; exact ⟨p, x, h _ _ e⟩
    | _ => cases a <;> simp only [VR] at hv
  case _ => intro a w hv; cases w <;> simp only [VR] at hv
  case _ => intro f xs ys h1 h2 w hv; cases w with
    | func g xs' ys' => obtain ⟨xs'⟩ := xs'; obtain ⟨ys'⟩ := ys'; simp only [VR] at hv ⊢; exact ⟨hv.1.mono h, h1 hv.2.1, h2 hv.2.2⟩
    | _ => simp only [VR] at hv
  case _ => intro w hv; cases w <;> simp only [VR] at hv ⊢
  case _ => intro t v ih w hv; cases w <;> simp only [VR] at hv ⊢; exact ⟨hv.1, ih hv.2⟩
  case _ => intro w hv; cases w <;> simp only [VR] at hv ⊢
  case _ => intro xs ih w hv; cases w with
    | agg ys => obtain ⟨ys⟩ := ys; simp only [VR] at hv ⊢; exact ih hv
    | _ => simp only [VR] at hv
  case _ => intro xs ih w hv; cases w with
    | tuple ys => obtain ⟨ys⟩ := ys; simp only [VR] at hv ⊢; exact ih hv
    | _ => simp only [VR] at hv
  case _ => intro ys hv; cases ys <;> simp_all [VR.go]
  case _ => intro a l h1 h2 ys hv; cases ys with
    | nil => simp only [VR.go] at hv
    | cons b m => simp only [VR.go] at hv ⊢; exact ⟨h1 hv.1, h2 hv.2⟩

theorem VL.mono {r s : PM} (h : r.le s) : ∀ {xs ys : List Value}, VL r xs ys → VL s xs ys
  | [], [], _ => by simp [VR.go]
  | a :: l, b :: m, hv => by simp only [VL, VR.go] at hv ⊢; exact ⟨hv.1.mono h, VL.mono h hv.2⟩
  | [], _ :: _, hv => by simp [VL, VR.go] at hv
  | _ :: _, [], hv => by simp [VL, VR.go] at hv

theorem VL.nil (r : PM) : VL r [] [] := by simp [VR.go]
theorem VL.cons {r : PM} {a b : Value} {l m : List Value} (h : VR r a b) (k : VL r l m) : VL r (a :: l) (b :: m) := by simp only [VL, VR.go]; exact ⟨h, k⟩

theorem VL.length {r : PM} : ∀ {xs ys : List Value}, VL r xs ys → ys.length = xs.length
  | [], [], _ => rfl
  | _ :: _, _ :: _, hv => by simp only [VL, VR.go] at hv; simp [VL.length hv.2]
  | [], _ :: _, hv => by simp [VL, VR.go] at hv
  | _ :: _, [], hv => by simp [VL, VR.go] at hv

theorem VL.get {r : PM} : ∀ {xs ys : List Value}, VL r xs ys → ∀ {k : Nat} {v : Value}, xs[k]? = some v → ∃ v', ys[k]? = some v' ∧ VR r v v'
  | a :: l, b :: m, hv, 0, v, hk => by simp only [VL, VR.go] at hv; simp at hk; subst hk; exact ⟨b, by simp, hv.1⟩
  | a :: l, b :: m, hv, k + 1, v, hk => by simp only [VL, VR.go] at hv; simp at hk ⊢; exact VL.get hv.2 hk
  | [], _, _, _, _, hk => by simp at hk
  | _ :: _, [], hv, _, _, _ => by simp [VL, VR.go] at hv

theorem VL.of_get {r : PM} : ∀ {xs ys : List Value}, ys.length = xs.length → (∀ (k : Nat) v, xs[k]? = some v → ∃ v', ys[k]? = some v' ∧ VR r v v') → VL r xs ys
  | [], [], _, _ => VL.nil r
  | a :: l, b :: m, hl, h => VL.cons (by obtain ⟨v', e, hv⟩ := h 0 a (by simp); simp at e; exact e ▸ hv) (VL.of_get (by simpa using hl) (fun k v hk => by simpa using h (k + 1) v (by simpa using hk)))
  | [], _ :: _, hl, _ => by simp at hl
  | _ :: _, [], hl, _ => by simp at hl

theorem VL.append {r : PM} : ∀ {xs ys xs' ys' : List Value}, VL r xs ys → VL r xs' ys' → VL r (xs ++ xs') (ys ++ ys')
  | [], [], _, _, _, k => k
  | _ :: _, _ :: _, _, _, hv, k => by simp only [VL, VR.go] at hv; exact VL.cons hv.1 (VL.append hv.2 k)
  | [], _ :: _, _, _, hv, _ => by simp [VL, VR.go] at hv
  | _ :: _, [], _, _, hv, _ => by simp [VL, VR.go] at hv

theorem VL.take {r : PM} (n : Nat) : ∀ {xs ys : List Value}, VL r xs ys → VL r (xs.take n) (ys.take n) := by
  induction n with
  | zero => intro xs ys _; simp [VL, VR.go]
  | succ n ih => intro xs ys hv; cases xs <;> cases ys <;> simp_all [VL, VR.go]

theorem VL.drop {r : PM} (n : Nat) : ∀ {xs ys : List Value}, VL r xs ys → VL r (xs.drop n) (ys.drop n) := by
  induction n with
  | zero => intro xs ys h; simpa using h
  | succ n ih => intro xs ys hv; cases xs <;> cases ys <;> simp_all [VL, VR.go]

theorem VL.set {r : PM} : ∀ {xs ys : List Value}, VL r xs ys → ∀ (n : Nat) {v v' : Value}, VR r v v' → VL r (xs.set n v) (ys.set n v')
  | [], [], _, _, _, _, _ => by simp [VL, VR.go]
  | _ :: _, _ :: _, hv, 0, _, _, h => by simp only [VL, VR.go] at hv; exact VL.cons h hv.2
  | _ :: _, _ :: _, hv, n + 1, _, _, h => by simp only [VL, VR.go] at hv; exact VL.cons hv.1 (VL.set hv.2 n h)
  | [], _ :: _, hv, _, _, _, _ => by simp [VL, VR.go] at hv
  | _ :: _, [], hv, _, _, _, _ => by simp [VL, VR.go] at hv

/-- A value with no address in it. -/
def flat : Value → Bool
  | .bool _ | .int _ _ | .string _ | .pointer none | .slice none _ _ | .map none | .nilFunc | .nilIface => true
  | .func (.func _) ⟨xs⟩ ⟨ys⟩ => go xs && go ys
  | .iface _ v => flat v
  | .agg ⟨xs⟩ | .tuple ⟨xs⟩ => go xs
  | _ => false
  where go : List Value → Bool
  | [] => true
  | a :: l => flat a && go l

theorem flat_refl (r : PM) (v : Value) : flat v = true → VR r v v := by
  refine vrec (M := fun v => flat v = true → VR r v v) (L := fun xs => flat.go xs = true → VL r xs xs) ?_ ?_ ?_ ?_ ?_ ?_ ?_ ?_ ?_ ?_ ?_ ?_ ?_ ?_ ?_ ?_ ?_ v
  case _ => intro b _; simp [VR]
  case _ => intro b _; simp [VR]
  case _ => intro b _ h; simp [flat] at h
  case _ => intro b _ _ h; simp [flat] at h
  case _ => intro b _; simp [VR]
  case _ => intro a h; cases a <;> simp [VR, flat] at h ⊢
  case _ => intro a _ _ h; cases a <;> simp [VR, flat] at h ⊢
  case _ => intro a h; cases a <;> simp [VR, flat] at h ⊢
  case _ => intro a h; simp [flat] at h
  case _ => intro f xs ys h1 h2 h; cases f <;> simp [VR, flat, FnR] at h ⊢; exact ⟨h1 h.1, h2 h.2⟩
  case _ => intro _; simp [VR]
  case _ => intro t v ih h; simp [VR, flat] at h ⊢; exact ih h
  case _ => intro _; simp [VR]
  case _ => intro xs ih h; simp [VR, flat] at h ⊢; exact ih h
  case _ => intro xs ih h; simp [VR, flat] at h ⊢; exact ih h
  case _ => intro _; simp [VR.go]
  case _ => intro a l h1 h2 h; simp [flat.go, VR.go] at h ⊢; exact ⟨h1 h.1, h2 h.2⟩

theorem flat_eq {r : PM} {v w : Value} : flat v = true → VR r v w → w = v := by
  revert w
  refine vrec (M := fun v => ∀ {w}, flat v = true → VR r v w → w = v) (L := fun xs => ∀ {ys}, flat.go xs = true → VL r xs ys → ys = xs) ?_ ?_ ?_ ?_ ?_ ?_ ?_ ?_ ?_ ?_ ?_ ?_ ?_ ?_ ?_ ?_ ?_ v
  case _ => intro b w _ h; cases w <;> simp only [VR] at h; rw [h]
  case _ => intro b _ w _ h; cases w <;> simp only [VR] at h; rw [h.1, h.2]
  case _ => intro b _ w h; simp [flat] at h
  case _ => intro b _ _ w h; simp [flat] at h
  case _ => intro b w _ h; cases w <;> simp only [VR] at h; rw [h]
  case _ => intro a w hf h; cases a <;> simp [flat] at hf; cases w <;> (try simp only [VR] at h); rename_i b; cases b <;> simp only [VR] at h
            rfl
  case _ => intro a l c w hf h; cases a <;> simp [flat] at hf; cases w <;> (try simp only [VR] at h); rename_i b _ _; cases b <;> simp only [VR] at h
            rw [h.1, h.2]
  case _ => intro a w hf h; cases a <;> simp [flat] at hf; cases w <;> (try simp only [VR] at h); rename_i b; cases b <;> simp only [VR] at h
            rfl
  case _ => intro a w hf h; simp [flat] at hf
  case _ => intro f xs ys h1 h2 w hf h; cases w with
    | func g xs' ys' => obtain ⟨xs'⟩ := xs'; obtain ⟨ys'⟩ := ys'; cases f <;> simp only [flat, Bool.and_eq_true, Bool.false_eq_true] at hf; cases g <;> simp only [VR, FnR, false_and] at h; rw [h1 hf.1 h.2.1, h2 hf.2 h.2.2, h.1]
    | _ => simp only [VR] at h
  case _ => intro w _ h; cases w <;> simp only [VR] at h; rfl
  case _ => intro t v ih w hf h; cases w <;> simp only [VR] at h; rw [h.1, ih (by simpa [flat] using hf) h.2]
  case _ => intro w _ h; cases w <;> simp only [VR] at h; rfl
  case _ => intro xs ih w hf h; cases w with
    | agg ys => obtain ⟨ys⟩ := ys; simp only [VR] at h; rw [ih (by simpa [flat] using hf) h]
    | _ => simp only [VR] at h
  case _ => intro xs ih w hf h; cases w with
    | tuple ys => obtain ⟨ys⟩ := ys; simp only [VR] at h; rw [ih (by simpa [flat] using hf) h]
    | _ => simp only [VR] at h
  case _ => intro ys _ h; cases ys <;> simp_all [VR.go]
  case _ => intro a l h1 h2 ys hf h; cases ys with
    | nil => simp only [VR.go] at h
    | cons b m => simp only [VR.go] at h; simp only [flat.go, Bool.and_eq_true] at hf; rw [h1 hf.1 h.1, h2 hf.2 h.2]

end Go.Eng

namespace Go.Eng
open Go.RowKit

/-! ### Maps by numbers -/

structure Q (α : Type) where
  a : α
  b : α
  c : α
  d : α

/- A list's recursor; and the same by a number that is always enough. -/
def lrec0 {α β : Type} (n : β) (c : α → List α → β → β) : List α → β
  | [] => n
  | a :: l => c a l (lrec0 n c l)
def lrecN {α β : Type} (n : β) (c : α → List α → β → β) : Nat → List α → β := @Nat.rec (fun _ => List α → β) (fun l => lrec0 n c l) (fun _ ih l => @List.casesOn α (fun _ => β) l n (fun a l => c a l (ih l)))
def lrec {α β : Type} (n : β) (c : α → List α → β → β) : List α → β := lrecN n c 1000000
theorem lrecN_eq {α β : Type} (n : β) (c : α → List α → β → β) (k : Nat) : ∀ l, lrecN n c k l = lrec0 n c l := by
  induction k with
  | zero => intro l; rfl
  | succ k ih =>
    intro l
    cases l with
    | nil => rfl
    | cons a l => show c a l (lrecN n c k l) = c a l (lrec0 n c l); rw [ih]
theorem lrec_eq {α β : Type} (n : β) (c : α → List α → β → β) (l : List α) : lrec n c l = lrec0 n c l := lrecN_eq n c _ l
theorem lrec_nil {α β : Type} (n : β) (c : α → List α → β → β) : lrec n c [] = n := lrec_eq n c []
theorem lrec_cons {α β : Type} (n : β) (c : α → List α → β → β) (a : α) (l : List α) : lrec n c (a :: l) = c a l (lrec n c l) := by rw [lrec_eq, lrec_eq]; rfl

def ifb {α : Type} (c : Bool) (a b : α) : α := @Bool.casesOn (fun _ => α) c b a
theorem ifb_true {α : Type} (a b : α) : ifb true a b = a := rfl
theorem ifb_false {α : Type} (a b : α) : ifb false a b = b := rfl
theorem ifb_eq {α : Type} (c : Bool) (a b : α) : ifb c a b = cond c a b := by cases c <;> rfl

def Q.sel {α : Type} (q : Q α) (k : Nat) : α :=
  @Q.casesOn α (fun _ => α) q (fun a b c d => ifb (Nat.beq k 0) a (ifb (Nat.beq k 1) b (ifb (Nat.beq k 2) c d)))

def Q.upd {α : Type} (q : Q α) (k : Nat) (f : α → α) : Q α :=
  @Q.casesOn α (fun _ => Q α) q (fun a b c d => ifb (Nat.beq k 0) ⟨f a, b, c, d⟩ (ifb (Nat.beq k 1) ⟨a, f b, c, d⟩ (ifb (Nat.beq k 2) ⟨a, b, f c, d⟩ ⟨a, b, c, f d⟩)))

theorem four {k : Nat} (h : k < 4) : k = 0 ∨ k = 1 ∨ k = 2 ∨ k = 3 := by omega

theorem Q.sel_upd {α : Type} (q : Q α) {k : Nat} (h : k < 4) (f : α → α) : (q.upd k f).sel k = f (q.sel k) := by
  obtain ⟨a, b, c, d⟩ := q
  rcases four h with rfl | rfl | rfl | rfl <;> rfl

theorem Q.sel_upd_ne {α : Type} (q : Q α) {k m : Nat} (h : k < 4) (hm : m < 4) (hne : k ≠ m) (f : α → α) : (q.upd k f).sel m = q.sel m := by
  obtain ⟨a, b, c, d⟩ := q
  rcases four h with rfl | rfl | rfl | rfl <;> rcases four hm with rfl | rfl | rfl | rfl <;> first | rfl | exact absurd rfl hne

def digit (n k : Nat) : Nat := Nat.mod (Nat.div n k) 4
theorem digit_eq (n k : Nat) : digit n k = n / k % 4 := rfl
theorem digit_lt (n k : Nat) : digit n k < 4 := Nat.mod_lt _ (by omega)

abbrev T4 (α : Type) := Q (Q (Q (Q α)))
abbrev T7 (α : Type) := Q (Q (Q (T4 (Option α))))

structure GS (α β : Type) where
  get : β → α
  set : β → α → β

def g0 {α β : Type} (g : β → α) (q : Q β) : α := g q.a
def g1 {α β : Type} (g : β → α) (q : Q β) : α := g q.b
def g2 {α β : Type} (g : β → α) (q : Q β) : α := g q.c
def g3 {α β : Type} (g : β → α) (q : Q β) : α := g q.d
def s0 {α β : Type} (s : β → α → β) (q : Q β) (v : α) : Q β := @Q.casesOn β (fun _ => Q β) q (fun a b c d => ⟨s a v, b, c, d⟩)
def s1 {α β : Type} (s : β → α → β) (q : Q β) (v : α) : Q β := @Q.casesOn β (fun _ => Q β) q (fun a b c d => ⟨a, s b v, c, d⟩)
def s2 {α β : Type} (s : β → α → β) (q : Q β) (v : α) : Q β := @Q.casesOn β (fun _ => Q β) q (fun a b c d => ⟨a, b, s c v, d⟩)
def s3 {α β : Type} (s : β → α → β) (q : Q β) (v : α) : Q β := @Q.casesOn β (fun _ => Q β) q (fun a b c d => ⟨a, b, c, s d v⟩)

def gsUp {α β : Type} (d : Nat) (x : GS α β) : GS α (Q β) :=
  @GS.casesOn α β (fun _ => GS α (Q β)) x (fun g s => ifb (Nat.beq d 0) ⟨g0 g, s0 s⟩ (ifb (Nat.beq d 1) ⟨g1 g, s1 s⟩ (ifb (Nat.beq d 2) ⟨g2 g, s2 s⟩ ⟨g3 g, s3 s⟩)))
def gs0 {α : Type} : GS α α := ⟨fun x => x, fun _ v => v⟩

theorem gsUp_get {α β : Type} (d : Nat) (x : GS α β) (q : Q β) : (gsUp d x).get q = x.get (q.sel d) := by
  obtain ⟨g, s⟩ := x
  obtain ⟨a, b, c, e⟩ := q
  unfold gsUp Q.sel
  simp only [ifb_eq]
  cases Nat.beq d 0 <;> cases Nat.beq d 1 <;> cases Nat.beq d 2 <;> rfl

theorem gsUp_set {α β : Type} (d : Nat) (x : GS α β) (q : Q β) (v : α) : (gsUp d x).set q v = q.upd d fun t => x.set t v := by
  obtain ⟨g, s⟩ := x
  obtain ⟨a, b, c, e⟩ := q
  unfold gsUp Q.upd
  simp only [ifb_eq]
  cases Nat.beq d 0 <;> cases Nat.beq d 1 <;> cases Nat.beq d 2 <;> rfl

def T4.at {α : Type} (n : Nat) : GS α (T4 α) := gsUp (digit n 64) (gsUp (digit n 16) (gsUp (digit n 4) (gsUp (Nat.mod n 4) gs0)))
def T4.get {α : Type} (t : T4 α) (n : Nat) : α := GS.get (T4.at n) t
def T4.set {α : Type} (t : T4 α) (n : Nat) (v : α) : T4 α := @GS.casesOn α (T4 α) (fun _ => T4 α) (T4.at n) (fun _ s => s t v)
theorem T4.get_at {α : Type} (t : T4 α) (n : Nat) : T4.get t n = (T4.at n).get t := rfl
theorem T4.set_at {α : Type} (t : T4 α) (n : Nat) (v : α) : T4.set t n v = (T4.at n).set t v := by unfold T4.set; cases (T4.at n : GS α (T4 α)); rfl
theorem T4.get_eq {α : Type} (t : T4 α) (n : Nat) : T4.get t n = (((Q.sel t (digit n 64)).sel (digit n 16)).sel (digit n 4)).sel (Nat.mod n 4) := by
  rw [T4.get_at, T4.at, gsUp_get, gsUp_get, gsUp_get, gsUp_get]; rfl
theorem T4.set_eq {α : Type} (t : T4 α) (n : Nat) (v : α) : T4.set t n v = Q.upd t (digit n 64) fun t => Q.upd t (digit n 16) fun t => Q.upd t (digit n 4) fun t => Q.upd t (Nat.mod n 4) fun _ => v := by
  rw [T4.set_at, T4.at]
  simp only [gsUp_set]
  rfl
def rep {α : Type} (x : α) : Q α := ⟨x, x, x, x⟩
def T4.leaf {α : Type} (x : α) : T4 α := rep (rep (rep (rep x)))

theorem mod4_lt (n : Nat) : Nat.mod n 4 < 4 := Nat.mod_lt _ (by omega)
theorem mod4_eq (n : Nat) : Nat.mod n 4 = n % 4 := rfl

theorem T4.get_set_same {α : Type} (t : T4 α) (n : Nat) (v : α) : T4.get (T4.set t n v) n = v := by
  rw [T4.get_eq, T4.set_eq]
  rw [Q.sel_upd _ (digit_lt _ _), Q.sel_upd _ (digit_lt _ _), Q.sel_upd _ (digit_lt _ _), Q.sel_upd _ (mod4_lt _)]

theorem T4.get_set_ne {α : Type} (t : T4 α) {n m : Nat} (hn : n < 256) (hm : m < 256) (h : n ≠ m) (v : α) : T4.get (T4.set t n v) m = T4.get t m := by
  simp only [T4.get_eq, T4.set_eq]
  by_cases h2 : digit n 64 = digit m 64
  · rw [h2, Q.sel_upd _ (digit_lt _ _)]
    by_cases h3 : digit n 16 = digit m 16
    · rw [h3, Q.sel_upd _ (digit_lt _ _)]
      by_cases h4 : digit n 4 = digit m 4
      · rw [h4, Q.sel_upd _ (digit_lt _ _)]
        have h5 : Nat.mod n 4 ≠ Nat.mod m 4 := by
          intro h5
          rw [mod4_eq, mod4_eq] at h5
          simp only [digit_eq] at h2 h3 h4
          omega
        rw [Q.sel_upd_ne _ (mod4_lt _) (mod4_lt _) h5]
      · rw [Q.sel_upd_ne _ (digit_lt _ _) (digit_lt _ _) h4]
    · rw [Q.sel_upd_ne _ (digit_lt _ _) (digit_lt _ _) h3]
  · rw [Q.sel_upd_ne _ (digit_lt _ _) (digit_lt _ _) h2]

theorem T4.get_leaf {α : Type} (x : α) (n : Nat) : T4.get (T4.leaf x) n = x := by
  have hs : ∀ {β : Type} (x : β) (k : Nat), (rep x).sel k = x := fun x k => by
    unfold rep Q.sel
    simp only [ifb_eq]
    cases Nat.beq k 0 <;> cases Nat.beq k 1 <;> cases Nat.beq k 2 <;> rfl
  rw [T4.get_eq, T4.leaf]
  rw [hs, hs, hs, hs]

def T7.at {α : Type} (n : Nat) : GS (Option α) (T7 α) := gsUp (digit n 4096) (gsUp (digit n 1024) (gsUp (digit n 256) (T4.at (Nat.mod n 256))))
def T7.get {α : Type} (t : T7 α) (n : Nat) : Option α := GS.get (T7.at n) t
def T7.set {α : Type} (t : T7 α) (n : Nat) (v : α) : T7 α := @GS.casesOn (Option α) (T7 α) (fun _ => T7 α) (T7.at n) (fun _ s => s t (some v))
theorem T7.get_eq {α : Type} (t : T7 α) (n : Nat) : T7.get t n = T4.get (((Q.sel t (digit n 4096)).sel (digit n 1024)).sel (digit n 256)) (Nat.mod n 256) := by
  rw [T4.get_at, ← gsUp_get, ← gsUp_get, ← gsUp_get]
  unfold T7.get T7.at
  generalize gsUp (digit n 4096) (gsUp (digit n 1024) (gsUp (digit n 256) (T4.at (Nat.mod n 256)))) = x
  cases (x : GS (Option α) (T7 α)); rfl
theorem T7.set_eq {α : Type} (t : T7 α) (n : Nat) (v : α) : T7.set t n v = Q.upd t (digit n 4096) fun t => Q.upd t (digit n 1024) fun t => Q.upd t (digit n 256) fun t => T4.set t (Nat.mod n 256) (some v) := by
  simp only [T4.set_at, ← gsUp_set]
  unfold T7.set T7.at
  generalize gsUp (digit n 4096) (gsUp (digit n 1024) (gsUp (digit n 256) (T4.at (Nat.mod n 256)))) = x
  cases (x : GS (Option α) (T7 α)); rfl
def T7.leaf {α : Type} : T7 α := rep (rep (rep (T4.leaf none)))

theorem T7.get_set_same {α : Type} (t : T7 α) (n : Nat) (v : α) : T7.get (T7.set t n v) n = some v := by
  simp only [T7.get_eq, T7.set_eq]
  rw [Q.sel_upd _ (digit_lt _ _), Q.sel_upd _ (digit_lt _ _), Q.sel_upd _ (digit_lt _ _), T4.get_set_same]

theorem T7.get_set_ne {α : Type} (t : T7 α) {n m : Nat} (hn : n < 16384) (hm : m < 16384) (h : n ≠ m) (v : α) : T7.get (T7.set t n v) m = T7.get t m := by
  simp only [T7.get_eq, T7.set_eq]
  by_cases h1 : digit n 4096 = digit m 4096
  · rw [h1, Q.sel_upd _ (digit_lt _ _)]
    by_cases h2 : digit n 1024 = digit m 1024
    · rw [h2, Q.sel_upd _ (digit_lt _ _)]
      by_cases h3 : digit n 256 = digit m 256
      · rw [h3, Q.sel_upd _ (digit_lt _ _)]
        refine T4.get_set_ne _ (Nat.mod_lt _ (by omega)) (Nat.mod_lt _ (by omega)) ?_ (some v)
        intro h4
        have h4' : n % 256 = m % 256 := h4
        simp only [digit_eq] at h1 h2 h3
        omega
      · rw [Q.sel_upd_ne _ (digit_lt _ _) (digit_lt _ _) h3]
    · rw [Q.sel_upd_ne _ (digit_lt _ _) (digit_lt _ _) h2]
  · rw [Q.sel_upd_ne _ (digit_lt _ _) (digit_lt _ _) h1]

/-! ### The memory of the run that is reckoned -/

structure AH where
  t : T7 Obj
  next : Nat
  lo : Nat

def most : Nat := 16384
def AH.get (H : AH) (i : Nat) : Option Obj := @AH.casesOn (fun _ => Option Obj) H (fun t n _ => ifb (Nat.blt i n) (T7.get t i) none)
def AH.set (H : AH) (i : Nat) (o : Obj) : AH := @AH.casesOn (fun _ => AH) H (fun t n l => ⟨T7.set t i o, n, l⟩)
def AH.push (H : AH) (o : Obj) : AH := @AH.casesOn (fun _ => AH) H (fun t n l => ⟨T7.set t n o, Nat.succ n, l⟩)
theorem AH.get_eq (H : AH) (i : Nat) : H.get i = if i < H.next then T7.get H.t i else none := by
  obtain ⟨t, n, l⟩ := H
  show ifb (Nat.blt i n) (T7.get t i) none = if i < n then T7.get t i else none
  by_cases h : i < n
  · have : Nat.blt i n = true := by simpa [Nat.blt_eq] using h
    rw [this, ifb_true, if_pos h]
  · have : Nat.blt i n = false := by rw [← Bool.not_eq_true, Nat.blt_eq]; exact h
    rw [this, ifb_false, if_neg h]

def gone : Obj := .coro none
def lives : Obj → Bool
  | .coro _ => false
  | _ => true

def inFrozen (fz : Nat × Nat) (k : Nat) : Bool := fz.1 ≤ k && k < fz.2

def AH.cell (H : AH) (a : Addr) : Option Value :=
  match a.spot with
  | some _ => none
  | none => match H.get a.block with
    | some (.cells c _ _) => c[a.off]?
    | _ => none

def AH.setCell (H : AH) (a : Addr) (v : Value) : Option AH :=
  match a.spot with
  | some _ => none
  | none => match H.get a.block with
    | some (.cells c e fz) => if a.off < c.size ∧ H.lo ≤ a.block then (if inFrozen fz a.off then none else some (H.set a.block (.cells (c.setIfInBounds a.off v) e fz))) else none
    | _ => none

theorem AH.get_set (H : AH) (hb : H.next ≤ most) {i : Nat} (hi : i < H.next) (o : Obj) (j : Nat) : (H.set i o).get j = if j = i then some o else H.get j := by
  rw [AH.get_eq, AH.get_eq]
  show (if j < H.next then T7.get (T7.set H.t i o) j else none) = _
  unfold most at hb
  by_cases hj : j < H.next
  · simp only [hj, if_true]
    by_cases h : j = i
    · subst h; simp only [if_true]; exact T7.get_set_same _ _ _
    · simp only [h, if_false]; exact T7.get_set_ne _ (by omega) (by omega) (fun e => h e.symm) _
  · have : j ≠ i := by omega
    simp only [hj, this, if_false]

theorem AH.get_push (H : AH) (hb : H.next < most) (o : Obj) (j : Nat) : (H.push o).get j = if j = H.next then some o else H.get j := by
  rw [AH.get_eq, AH.get_eq]
  show (if j < H.next + 1 then T7.get (T7.set H.t H.next o) j else none) = _
  unfold most at hb
  by_cases hj : j < H.next
  · have h1 : j < H.next + 1 := by omega
    have h2 : j ≠ H.next := by omega
    simp only [hj, h1, h2, if_true, if_false]
    exact T7.get_set_ne _ (by omega) (by omega) (fun e => h2 e.symm) _
  · by_cases h : j = H.next
    · subst h
      have h1 : H.next < H.next + 1 := by omega
      simp only [h1, if_true]; exact T7.get_set_same _ _ _
    · have h1 : ¬ j < H.next + 1 := by omega
      simp only [hj, h, h1, if_false]

theorem AH.get_lt {H : AH} {i : Nat} {o : Obj} (h : H.get i = some o) : i < H.next := by
  rw [AH.get_eq] at h; split at h; assumption; cases h

/-! ### What the true memory has to do with it -/

def BR (r : PM) (i j : Nat) : Prop := ∃ s x, r i = some (j, s, x)
theorem BR.mono {r s : PM} (h : r.le s) {i j : Nat} : BR r i j → BR s i j := fun ⟨p, x, e⟩ => ⟨p, x, h _ _ e⟩

def EL (r : PM) : List MapEntry → List MapEntry → Prop
  | [], [] => True
  | e :: l, f :: m => (VR r e.key f.key ∧ VR r e.val f.val ∧ f.born = e.born) ∧ EL r l m
  | _, _ => False

theorem EL.mono {r s : PM} (h : r.le s) : ∀ {l m : List MapEntry}, EL r l m → EL s l m
  | [], [], _ => trivial
  | _ :: _, _ :: _, hv => by simp only [EL] at hv ⊢; exact ⟨⟨hv.1.1.mono h, hv.1.2.1.mono h, hv.1.2.2⟩, EL.mono h hv.2⟩
  | [], _ :: _, hv => by simp [EL] at hv
  | _ :: _, [], hv => by simp [EL] at hv

def OR (r : PM) : Obj → Obj → Prop
  | .cells c e fz, .cells c' e' fz' => e' = e ∧ fz = (0, 0) ∧ fz' = (0, 0) ∧ VL r c.toList c'.toList
  | .map es n, .map es' n' => n' = n ∧ EL r es.toList es'.toList
  | .stringIter s n, .stringIter s' n' => s' = s ∧ n' = n
  | .loop l, .loop l' => l'.state = l.state ∧ l'.pending = l.pending ∧ l'.fn = l.fn ∧ VL r l.tmps.toList l'.tmps.toList ∧ l'.params = l.params ∧ l'.assign = l.assign ∧ l'.body = l.body ∧ BR r l.defers l'.defers
  | .deferred none, .deferred none => True
  | .deferred (some []), .deferred (some []) => True
  | _, _ => False

theorem OR.mono {r s : PM} (h : r.le s) {o o' : Obj} (ho : OR r o o') : OR s o o' := by
  unfold OR at ho ⊢
  split at ho
  · exact ⟨ho.1, ho.2.1, ho.2.2.1, ho.2.2.2.mono h⟩
  · exact ⟨ho.1, ho.2.mono h⟩
  · exact ho
  · obtain ⟨h1, h2, h3, h4, h5, h6, h7, h8⟩ := ho; exact ⟨h1, h2, h3, h4.mono h, h5, h6, h7, h8.mono h⟩
  · trivial
  · trivial
  · exact ho.elim

def esz (P : Program) (e : TypeId) : Nat := ((P.info? e).map (·.size)).getD 0

def CellsAt (P : Program) (r : PM) (s x : Nat) (c : Array Value) (e : TypeId) (fz : Nat × Nat) (o : Option Obj) : Prop :=
  ∃ c' fz', o = some (.cells c' e fz') ∧ c'.size = s + c.size + x * esz P e ∧ (∀ k v, c[k]? = some v → ∃ v', c'[s + k]? = some v' ∧ VR r v v') ∧
    (∀ k, s ≤ k → k < c'.size → inFrozen fz' k = true → inFrozen fz (k - s) = true) ∧ (fz.1 = fz.2 → fz'.1 = fz'.2) ∧ (fz = (0, 0) → s = 0 ∧ x = 0)

def ObjAt (P : Program) (r : PM) (s x : Nat) (o : Obj) (o' : Option Obj) : Prop :=
  match o with
  | .cells c e fz => CellsAt P r s x c e fz o'
  | o => ∃ q, o' = some q ∧ OR r o q

theorem ObjAt.mono {P : Program} {r t : PM} (h : r.le t) {s x : Nat} {o : Obj} {o' : Option Obj} (ho : ObjAt P r s x o o') : ObjAt P t s x o o' := by
  cases o with
  | cells c e fz =>
    obtain ⟨c', fz', e1, e2, e3, e4⟩ := ho
    exact ⟨c', fz', e1, e2, fun k v hk => let ⟨v', a, b⟩ := e3 k v hk; ⟨v', a, b.mono h⟩, e4⟩
  | _ => obtain ⟨q, e1, e2⟩ := ho; exact ⟨q, e1, e2.mono h⟩

structure Rel (P : Program) (G N : Nat) (r : PM) (H : AH) (w : World) : Prop where
  top : ∀ i, H.next ≤ i → r i = none
  dom : ∀ i p, r i = some p → p.1 < w.heap.size
  obj : ∀ i o, H.get i = some o → lives o = true → ∃ b s x, r i = some (b, s, x) ∧ (G ≤ i → N ≤ b) ∧ ObjAt P r s x o w.heap[b]?
  inj : ∀ i j o q b s x s' x', H.get i = some o → lives o = true → H.get j = some q → lives q = true → r i = some (b, s, x) → r j = some (b, s', x') → i = j
  glob : ∀ g, g < G → r g = some (g, 0, 0)
  base : N ≤ w.heap.size
  lo : H.lo = G
  bound : H.next ≤ most

end Go.Eng

namespace Go.Eng
open Go.RowKit

variable {P : Program} {G N : Nat}

theorem frozen_eq (w : World) (a : Addr) {c : Array Value} {e : TypeId} {fz : Nat × Nat} (h : w.heap[a.block]? = some (.cells c e fz)) : w.frozen? a = inFrozen fz a.off := by
  simp only [World.frozen?, h, inFrozen]

theorem cell_eq (w : World) (a : Addr) (hs : a.spot = none) {c : Array Value} {e : TypeId} {fz : Nat × Nat} (h : w.heap[a.block]? = some (.cells c e fz)) : w.cell? a = c[a.off]? := by
  simp [World.cell?, h, hs]

theorem Rel.load {r : PM} {H : AH} {w : World} (h : Rel P G N r H w) {a a' : Addr} {v : Value} (hc : H.cell a = some v) (ha : AR r a a') :
    ∃ v', w.cell? a' = some v' ∧ VR r v v' := by
  obtain ⟨s, x, e, o, sp, sp'⟩ := ha
  unfold AH.cell at hc
  simp only [sp] at hc
  split at hc
  · rename_i c el fz hg
    obtain ⟨b, s1, x1, e1, _, hat⟩ := h.obj _ _ hg rfl
    rw [e] at e1
    obtain ⟨c', fz', e2, _, e4, _⟩ := hat
    simp only [Option.some.injEq, Prod.mk.injEq] at e1
    obtain ⟨hb, rfl, rfl⟩ := e1
    rw [← hb] at e2
    obtain ⟨v', e5, e6⟩ := e4 _ _ hc
    refine ⟨v', ?_, e6⟩
    rw [cell_eq w a' sp' e2, o, Nat.add_comm]
    exact e5
  · cases hc

theorem lives_cells (c : Array Value) (e : TypeId) (fz : Nat × Nat) : lives (.cells c e fz) = true := rfl

/-- Another object in the place of one that lives. -/
theorem Rel.put {r : PM} {H : AH} {w w' : World} (h : Rel P G N r H w) {i b s x : Nat} {o q : Obj} (hg : H.get i = some o) (hl : lives o = true) (hr : r i = some (b, s, x))
    (hsz : w'.heap.size = w.heap.size) (hoth : ∀ k, k ≠ b → w'.heap[k]? = w.heap[k]?) (hat : ObjAt P r s x q w'.heap[b]?) : Rel P G N r (H.set i q) w' := by
  have hi := AH.get_lt hg
  have hgs := fun j => AH.get_set H h.bound hi q j
  refine ⟨h.top, fun j p hj => hsz ▸ h.dom j p hj, fun j o1 hj hl1 => ?_, fun j k o1 q1 b1 s1 x1 s2 x2 hj hl1 hk hl2 e1 e2 => ?_, h.glob, hsz ▸ h.base, h.lo, h.bound⟩
  · rw [hgs] at hj
    by_cases hji : j = i
    · subst hji
      simp only [if_true, Option.some.injEq] at hj
      subst hj
      obtain ⟨b1, s1, x1, e1, hN, _⟩ := h.obj _ _ hg hl
      rw [hr] at e1
      simp only [Option.some.injEq, Prod.mk.injEq] at e1
      obtain ⟨rfl, rfl, rfl⟩ := e1
      exact ⟨b, s, x, hr, hN, hat⟩
    · simp only [hji, if_false] at hj
      obtain ⟨b1, s1, x1, e1, hN, hat1⟩ := h.obj _ _ hj hl1
      refine ⟨b1, s1, x1, e1, hN, ?_⟩
      have hb : b1 ≠ b := fun hbb => by subst hbb; exact hji (h.inj _ _ _ _ _ _ _ _ _ hj hl1 hg hl e1 hr)
      rw [hoth b1 hb]
      exact hat1
  · have live : ∀ j o1, (H.set i q).get j = some o1 → lives o1 = true → ∃ o2, H.get j = some o2 ∧ lives o2 = true := fun j o1 hj hl1 => by
      rw [hgs] at hj
      by_cases hji : j = i
      · subst hji; exact ⟨o, hg, hl⟩
      · simp only [hji, if_false] at hj; exact ⟨o1, hj, hl1⟩
    obtain ⟨o3, g3, l3⟩ := live _ _ hj hl1
    obtain ⟨o4, g4, l4⟩ := live _ _ hk hl2
    exact h.inj _ _ _ _ _ _ _ _ _ g3 l3 g4 l4 e1 e2

def ins (r : PM) (i : Nat) (p : Nat × Nat × Nat) : PM := fun j => if j = i then some p else r j

theorem ins_le {r : PM} {i : Nat} {p : Nat × Nat × Nat} (h : r i = none) : r.le (ins r i p) := fun j q hj => by
  unfold ins
  by_cases hji : j = i
  · subst hji; rw [h] at hj; cases hj
  · simp only [hji, if_false]; exact hj

theorem ins_same (r : PM) (i : Nat) (p : Nat × Nat × Nat) : ins r i p i = some p := by simp [ins]

/-- A new block, at a place of its own in the true memory. -/
theorem Rel.fresh {r : PM} {H : AH} {w w' : World} (h : Rel P G N r H w) (hlt : H.next < most) {o : Obj} {b s x : Nat}
    (hsz : w.heap.size ≤ w'.heap.size) (hb : b < w'.heap.size) (hNb : w.heap.size ≤ b) (hoth : ∀ k, k < w.heap.size → w'.heap[k]? = w.heap[k]?) (hat : ObjAt P r s x o w'.heap[b]?) :
    Rel P G N (ins r H.next (b, s, x)) (H.push o) w' := by
  have hnone := h.top _ (Nat.le_refl _)
  have hle : r.le (ins r H.next (b, s, x)) := ins_le hnone
  have hgp := fun j => AH.get_push H hlt o j
  have old : ∀ j o1, H.get j = some o1 → lives o1 = true → ∃ b1 s1 x1, r j = some (b1, s1, x1) ∧ (G ≤ j → N ≤ b1) ∧ b1 < w.heap.size ∧ ObjAt P r s1 x1 o1 w.heap[b1]? := fun j o1 hj hl1 =>
    let ⟨b1, s1, x1, e1, hN, hat1⟩ := h.obj j o1 hj hl1; ⟨b1, s1, x1, e1, hN, h.dom _ _ e1, hat1⟩
  refine ⟨fun i hi => ?_, fun i p hp => ?_, fun j o1 hj hl1 => ?_, fun j k o1 q1 b1 s1 x1 s2 x2 hj hl1 hk hl2 e1 e2 => ?_, fun g hg => hle _ _ (h.glob g hg), Nat.le_trans h.base hsz, h.lo, hlt⟩
  · have : H.next + 1 ≤ i := hi
    have hne : i ≠ H.next := by omega
    simp only [ins, hne, if_false]
    exact h.top i (by omega)
  · by_cases hi : i = H.next
    · subst hi; rw [ins_same] at hp; simp only [Option.some.injEq] at hp; subst hp; exact hb
    · simp only [ins, hi, if_false] at hp; exact Nat.lt_of_lt_of_le (h.dom _ _ hp) hsz
  · rw [hgp] at hj
    by_cases hji : j = H.next
    · subst hji
      simp only [if_true, Option.some.injEq] at hj
      subst hj
      exact ⟨b, s, x, ins_same _ _ _, fun _ => Nat.le_trans h.base hNb, hat.mono hle⟩
    · simp only [hji, if_false] at hj
      obtain ⟨b1, s1, x1, e1, hN, hb1, hat1⟩ := old j o1 hj hl1
      exact ⟨b1, s1, x1, hle _ _ e1, hN, by rw [hoth b1 hb1]; exact hat1.mono hle⟩
  · rw [hgp] at hj hk
    have far : ∀ m om sm xm, H.get m = some om → lives om = true → ins r H.next (b, s, x) m = some (b, sm, xm) → m ≠ H.next → False := fun m om sm xm hm hlm em hne => by
      simp only [ins, hne, if_false] at em
      have := h.dom _ _ em
      simp only at this
      omega
    by_cases hji : j = H.next <;> by_cases hki : k = H.next
    · rw [hji, hki]
    · simp only [hki, if_false] at hk
      subst hji
      rw [ins_same] at e1
      simp only [Option.some.injEq, Prod.mk.injEq] at e1
      obtain ⟨rfl, rfl, rfl⟩ := e1
      exact (far _ _ _ _ hk hl2 e2 hki).elim
    · simp only [hji, if_false] at hj
      subst hki
      rw [ins_same] at e2
      simp only [Option.some.injEq, Prod.mk.injEq] at e2
      obtain ⟨rfl, rfl, rfl⟩ := e2
      exact (far _ _ _ _ hj hl1 e1 hji).elim
    · simp only [hji, hki, if_false] at hj hk
      simp only [ins, hji, hki, if_false] at e1 e2
      exact h.inj _ _ _ _ _ _ _ _ _ hj hl1 hk hl2 e1 e2

/-! ### What a stretch of the run leaves -/

/-- A block of the run's own. -/
def Ow (r : PM) (H : AH) (k : Nat) : Prop := ∃ i o s x, H.lo ≤ i ∧ H.get i = some o ∧ lives o = true ∧ r i = some (k, s, x)

structure Ex (P : Program) (G N : Nat) (r : PM) (H : AH) (w : World) (s : PM) (H' : AH) (w' : World) : Prop where
  le : r.le s
  rel : Rel P G N s H' w'
  own : ∀ k, k < w.heap.size → Ow s H' k → Ow r H k
  keep : ∀ k, k < w.heap.size → ¬ Ow r H k → w'.heap[k]? = w.heap[k]?
  size : w.heap.size ≤ w'.heap.size
  os : w'.os = w.os
  tape : w'.tape = w.tape
  output : w'.output = w.output
  rng : ∀ i p, s i = some p → p.1 < w.heap.size → ∃ j q, r j = some q ∧ q.1 = p.1

theorem Ex.refl {r : PM} {H : AH} {w : World} (h : Rel P G N r H w) : Ex P G N r H w r H w := ⟨.refl r, h, fun _ _ h => h, fun _ _ _ => rfl, Nat.le_refl _, rfl, rfl, rfl, fun i p hp _ => ⟨i, p, hp, rfl⟩⟩

theorem Ex.trans {r s t : PM} {H H1 H2 : AH} {w w1 w2 : World} (h : Ex P G N r H w s H1 w1) (k : Ex P G N s H1 w1 t H2 w2) : Ex P G N r H w t H2 w2 :=
  ⟨h.le.trans k.le, k.rel, fun i hi ho => h.own i hi (k.own i (Nat.lt_of_lt_of_le hi h.size) ho),
    fun i hi ho => (k.keep i (Nat.lt_of_lt_of_le hi h.size) (fun h' => ho (h.own i hi h'))).trans (h.keep i hi ho), Nat.le_trans h.size k.size,
    k.os.trans h.os, k.tape.trans h.tape, k.output.trans h.output, fun i p hp hlt =>
      let ⟨j, q, e1, e2⟩ := k.rng i p hp (Nat.lt_of_lt_of_le hlt h.size)
      let ⟨j', q', f1, f2⟩ := h.rng j q e1 (by rw [e2]; exact hlt)
      ⟨j', q', f1, f2.trans e2⟩⟩

theorem Ow.ge {r : PM} {H : AH} {w : World} (h : Rel P G N r H w) {k : Nat} : Ow r H k → N ≤ k := by
  rintro ⟨i, o, s, x, hlo, hg, hl, hr⟩
  obtain ⟨b, s1, x1, e1, hN, _⟩ := h.obj _ _ hg hl
  rw [hr] at e1
  simp only [Option.some.injEq, Prod.mk.injEq] at e1
  rw [e1.1]
  exact hN (h.lo ▸ hlo)

theorem Ex.below {r s : PM} {H H' : AH} {w w' : World} (h : Rel P G N r H w) (k : Ex P G N r H w s H' w') : Below N w w' :=
  ⟨k.os, k.tape, k.output, k.size, fun i hi => k.keep i (Nat.lt_of_lt_of_le hi h.base) (fun ho => by have := Ow.ge h ho; omega)⟩

theorem Ex.put {r : PM} {H : AH} {w w' : World} (h : Rel P G N r H w) {i b s x : Nat} {o q : Obj} (hg : H.get i = some o) (hl : lives o = true) (hlo : H.lo ≤ i) (hr : r i = some (b, s, x))
    (hsz : w'.heap.size = w.heap.size) (hoth : ∀ k, k ≠ b → w'.heap[k]? = w.heap[k]?) (hat : ObjAt P r s x q w'.heap[b]?) (h1 : w'.os = w.os) (h2 : w'.tape = w.tape) (h3 : w'.output = w.output) :
    Ex P G N r H w r (H.set i q) w' := by
  refine ⟨.refl r, h.put hg hl hr hsz hoth hat, fun k hk ⟨j, o1, s1, x1, l1, g1, v1, r1⟩ => ?_, fun k hk ho => ?_, Nat.le_of_eq hsz.symm, h1, h2, h3, fun i p hp _ => ⟨i, p, hp, rfl⟩⟩
  · rw [AH.get_set H h.bound (AH.get_lt hg) q j] at g1
    by_cases hji : j = i
    · subst hji; exact ⟨j, o, s1, x1, l1, hg, hl, r1⟩
    · simp only [hji, if_false] at g1; exact ⟨j, o1, s1, x1, l1, g1, v1, r1⟩
  · by_cases hkb : k = b
    · subst hkb; exact absurd ⟨i, o, s, x, hlo, hg, hl, hr⟩ ho
    · exact hoth k hkb

theorem Ex.fresh {r : PM} {H : AH} {w w' : World} (h : Rel P G N r H w) (hlt : H.next < most) {o : Obj} {b s x : Nat}
    (hsz : w.heap.size ≤ w'.heap.size) (hb : b < w'.heap.size) (hNb : w.heap.size ≤ b) (hoth : ∀ k, k < w.heap.size → w'.heap[k]? = w.heap[k]?) (hat : ObjAt P r s x o w'.heap[b]?)
    (h1 : w'.os = w.os) (h2 : w'.tape = w.tape) (h3 : w'.output = w.output) : Ex P G N r H w (ins r H.next (b, s, x)) (H.push o) w' := by
  refine ⟨ins_le (h.top _ (Nat.le_refl _)), h.fresh hlt hsz hb hNb hoth hat, fun k hk ⟨j, o1, s1, x1, l1, g1, v1, r1⟩ => ?_, fun k hk _ => hoth k hk, hsz, h1, h2, h3, fun i p hp hlt' => ?_⟩
  rotate_left
  · by_cases hi : i = H.next
    · subst hi; rw [ins_same] at hp; simp only [Option.some.injEq] at hp; subst hp; simp only at hlt'; omega
    · simp only [ins, hi, if_false] at hp; exact ⟨i, p, hp, rfl⟩
  rw [AH.get_push H hlt o j] at g1
  by_cases hji : j = H.next
  · subst hji
    rw [ins_same] at r1
    simp only [Option.some.injEq, Prod.mk.injEq] at r1
    omega
  · simp only [hji, if_false] at g1
    simp only [ins, hji, if_false] at r1
    exact ⟨j, o1, s1, x1, l1, g1, v1, r1⟩

theorem Ex.store {r : PM} {H H' : AH} {w : World} (h : Rel P G N r H w) {a a' : Addr} {v v' : Value} (hc : H.setCell a v = some H') (ha : AR r a a') (hv : VR r v v') :
    (∃ u, w.cell? a' = some u) ∧ w.frozen? a' = false ∧ Ex P G N r H w r H' (w.setCell a' v') := by
  obtain ⟨s, x, e, o, sp, sp'⟩ := ha
  unfold AH.setCell at hc
  simp only [sp] at hc
  split at hc
  · rename_i c el fz hg
    split at hc
    · rename_i hlt
      split at hc
      · cases hc
      · rename_i hnf
        simp only [Option.some.injEq] at hc
        subst hc
        obtain ⟨b, s1, x1, e1, hN, hat⟩ := h.obj _ _ hg rfl
        have e1' := e1
        rw [e] at e1
        simp only [Option.some.injEq, Prod.mk.injEq] at e1
        obtain ⟨hb, rfl, rfl⟩ := e1
        obtain ⟨c', fz', e2, e3, e4, e5, e6, e7⟩ := hat
        rw [← hb] at e2 hN e1'
        have hlo := hlt.2
        replace hlt := hlt.1
        have hlt' : a'.off < c'.size := by rw [o]; omega
        have hfr : w.frozen? a' = false := by
          rw [frozen_eq w a' e2]
          cases hh : inFrozen fz' a'.off with
          | false => rfl
          | true =>
            have := e5 a'.off (by omega) (by omega) hh
            rw [o, Nat.add_sub_cancel] at this
            exact absurd this hnf
        refine ⟨⟨c'[a'.off], by rw [cell_eq w a' sp' e2]; simp [hlt']⟩, hfr, ?_⟩
        refine Ex.put h (b := a'.block) (s := s) (x := x) hg rfl hlo e1' (by simp [World.setCell]) (fun k hk => ?_) ?_ rfl rfl rfl
        · simp only [World.setCell, Array.getElem?_modify]; rw [if_neg (fun e => hk e.symm)]
        · have hh : (w.setCell a' v').heap[a'.block]? = some (.cells (c'.setIfInBounds a'.off v') el fz') := by
            simp only [World.setCell, Array.getElem?_modify, if_true, e2, Option.map_some, sp']
            simp
          refine ⟨_, fz', hh, by simpa using e3, fun k u hk => ?_, fun k h1 h2 h3 => e5 k h1 (by simpa using h2) h3, e6, e7⟩
          rw [Array.getElem?_setIfInBounds] at hk
          by_cases hk0 : a.off = k
          · subst hk0
            simp only [if_true, hlt, Option.some.injEq] at hk
            subst hk
            refine ⟨v', ?_, hv⟩
            rw [Array.getElem?_setIfInBounds, o, Nat.add_comm, if_pos rfl, if_pos (by omega)]
          · simp only [hk0, if_false] at hk
            obtain ⟨u', f1, f2⟩ := e4 _ _ hk
            refine ⟨u', ?_, f2⟩
            rw [Array.getElem?_setIfInBounds, if_neg (by omega)]
            exact f1
    · cases hc
  · cases hc

/-- A draw. -/
theorem Rel.drew {r : PM} {H : AH} {w : World} (h : Rel P G N r H w) (n : Nat) : Rel P G N r H { w with drawn := n } := ⟨h.top, h.dom, h.obj, h.inj, h.glob, h.base, h.lo, h.bound⟩
theorem Ex.drew {r : PM} {H : AH} {w : World} (h : Rel P G N r H w) (n : Nat) : Ex P G N r H w r H { w with drawn := n } := ⟨.refl r, h.drew n, fun _ _ h => h, fun _ _ _ => rfl, Nat.le_refl _, rfl, rfl, rfl, fun i p hp _ => ⟨i, p, hp, rfl⟩⟩

end Go.Eng

namespace Go.Eng
open Go.RowKit

variable {P : Program} {G N : Nat}

/-- Two ways of going on, one beside the other. -/
def TR (P : Program) {α β : Type} (R : PM → α → β → Prop) : PM → Sem α → Sem β → Prop
  | r, .pure a, .pure b => R r a b
  | r, .load _ a k, .load _ a' k' => AR r a a' ∧ ∀ v v', VR r v v' → TR P R r (k v) (k' v')
  | r, .store _ a v k, .store _ a' v' k' => AR r a a' ∧ VR r v v' ∧ TR P R r k k'
  | r, .new o k, .new o' k' => OR r o o' ∧ ∀ s i i', PM.le r s → s i = some (i', 0, 0) → TR P R s (k i) (k' i')
  | r, .getObj i k, .getObj i' k' => BR r i i' ∧ ∀ o o', OR r o o' → TR P R r (k o) (k' o')
  | r, .setObj i o k, .setObj i' o' k' => BR r i i' ∧ OR r o o' ∧ TR P R r k k'
  | r, .program k, .program k' => TR P R r (k P) (k' P)
  | r, .mark _ k, .mark _ k' => TR P R r k k'
  | _, .halt _, _ => True
  | _, _, _ => False

def one : Value → Bool
  | .agg _ | .tuple _ => false
  | _ => true

def isCells : Obj → Bool
  | .cells .. => true
  | _ => false

/-- What is reckoned. -/
def ar (P : Program) {α : Type} : Sem α → AH → Option (α × AH)
  | .pure a, H => some (a, H)
  | .load _ a k, H => match H.cell a with
    | some v => ar P (k v) H
    | none => none
  | .store _ a v k, H => match one v, H.setCell a v with
    | true, some H' => ar P k H'
    | _, _ => none
  | .new o k, H => if H.next < most then ar P (k H.next) (H.push o) else none
  | .getObj i k, H => match H.get i with
    | some (.cells ..) => none
    | some (.coro _) => none
    | some o => ar P (k o) H
    | none => none
  | .setObj i o k, H => if isCells o || decide (i < H.lo) then none else match H.get i with
    | some (.cells ..) => none
    | some (.coro _) => none
    | some _ => ar P k (H.set i o)
    | none => none
  | .program k, H => ar P (k P) H
  | .mark _ k, H => ar P k H
  | _, _ => none

theorem VR.oneCell {r : PM} {v v' : Value} (h : VR r v v') (hv : one v = true) : one v' = true := by
  cases v' <;> first | rfl | (cases v <;> first | (simp [one] at hv; done) | (simp only [VR] at h; done) | (rename_i a; cases a <;> simp only [VR] at h) | (rename_i a _ _; cases a <;> simp only [VR] at h))

theorem OR.lives {r : PM} {o o' : Obj} (h : OR r o o') : lives o = true := by
  unfold OR at h
  split at h <;> first | rfl | exact h.elim

theorem OR.lives' {r : PM} {o o' : Obj} (h : OR r o o') : Eng.lives o' = true := by
  unfold OR at h
  split at h <;> first | rfl | exact h.elim

theorem OR.at {r : PM} {o o' : Obj} (h : OR r o o') : ObjAt P r 0 0 o (some o') := by
  cases o with
  | cells c e fz =>
    cases o' <;> simp only [OR] at h
    rename_i c' e' fz'
    obtain ⟨rfl, rfl, rfl, hv⟩ := h
    refine ⟨c', (0, 0), rfl, ?_, fun k v hk => ?_, fun k _ _ h3 => ?_, fun h => h, fun _ => ⟨rfl, rfl⟩⟩
    · have := hv.length; simp at this; omega
    · rw [← Array.getElem?_toList] at hk
      obtain ⟨v', e1, e2⟩ := hv.get hk
      exact ⟨v', by rw [Nat.zero_add, ← Array.getElem?_toList]; exact e1, e2⟩
    · simp [inFrozen] at h3
  | _ => exact ⟨o', rfl, h⟩

theorem OR.cells_iff {r : PM} {o o' : Obj} (h : OR r o o') : (∃ c e f, o' = .cells c e f) → ∃ c e f, o = .cells c e f := by
  rintro ⟨c, e, f, rfl⟩
  cases o <;> simp only [OR] at h
  exact ⟨_, _, _, rfl⟩

theorem h_lt {h : Array Obj} {b : Nat} {o : Obj} (e : h[b]? = some o) : b < h.size := by
  rw [Array.getElem?_eq_some_iff] at e; exact e.1

theorem ar_sound {α β : Type} {R : PM → α → β → Prop} (t : Sem α) : ∀ (t' : Sem β) (r : PM) (H : AH) (w : World) (a : α) (H' : AH), TR P R r t t' → Rel P G N r H w → ar P t H = some (a, H') →
    ∃ s b w', t'.run P w = .ok b w' ∧ R s a b ∧ Ex P G N r H w s H' w' := by
  induction t with
  | pure a0 =>
    intro t' r H w a H' ht hr he
    cases t' <;> simp only [TR] at ht
    simp only [ar, Option.some.injEq, Prod.mk.injEq] at he
    obtain ⟨rfl, rfl⟩ := he
    exact ⟨r, _, w, rfl, ht, .refl hr⟩
  | load m ad k ih =>
    intro t' r H w a H' ht hr he
    cases t' <;> simp only [TR] at ht
    rename_i m' ad' k'
    simp only [ar] at he
    split at he
    · rename_i v hc
      obtain ⟨v', e1, e2⟩ := hr.load hc ht.1
      obtain ⟨s, b, w', g1, g2⟩ := ih v (k' v') r H w a H' (ht.2 v v' e2) hr he
      exact ⟨s, b, w', by simp only [Sem.run, e1]; exact g1, g2⟩
    · cases he
  | store m ad v k ih =>
    intro t' r H w a H' ht hr he
    cases t' <;> simp only [TR] at ht
    rename_i m' ad' v' k'
    simp only [ar] at he
    split at he
    · rename_i H1 hone hset
      obtain ⟨⟨u, e1⟩, e2, e3⟩ := Ex.store hr hset ht.1 ht.2.1
      obtain ⟨s, b, w', g1, g2, g3⟩ := ih k' r H1 (w.setCell ad' v') a H' ht.2.2 e3.rel he
      have hone' := ht.2.1.oneCell hone
      refine ⟨s, b, w', ?_, g2, e3.trans g3⟩
      cases v' <;> simp only [one, Bool.false_eq_true] at hone' <;> (simp only [Sem.run, e1, e2]; exact g1)
    · cases he
  | new o k ih =>
    intro t' r H w a H' ht hr he
    cases t' <;> simp only [TR] at ht
    rename_i o' k'
    simp only [ar] at he
    split at he
    · rename_i hlt
      have hrel := Ex.fresh hr (w' := { w with heap := w.heap.push o' }) hlt (o := o) (b := w.heap.size) (s := 0) (x := 0) (by simp) (by simp) (Nat.le_refl _)
        (fun k hk => by show (w.heap.push o')[k]? = _; rw [Array.getElem?_push, if_neg (by omega)]) (by show ObjAt P r 0 0 o (w.heap.push o')[w.heap.size]?; rw [Array.getElem?_push_size]; exact ht.1.at) rfl rfl rfl
      obtain ⟨s, b, w', g1, g2, g3⟩ := ih H.next (k' w.heap.size) _ _ _ a H' (ht.2 _ H.next w.heap.size hrel.le (ins_same _ _ _)) hrel.rel he
      exact ⟨s, b, w', by simp only [Sem.run]; exact g1, g2, hrel.trans g3⟩
    · cases he
  | getObj i k ih =>
    intro t' r H w a H' ht hr he
    cases t' <;> simp only [TR] at ht
    rename_i i' k'
    simp only [ar] at he
    split at he
    · cases he
    · cases he
    · rename_i o hn1 hn2 hg
      have hl : lives o = true := by cases o <;> first | rfl | exact absurd rfl (hn2 _)
      obtain ⟨b, s, x, e1, hN, hat⟩ := hr.obj _ _ hg hl
      obtain ⟨p, y, e2⟩ := ht.1
      rw [e1] at e2
      simp only [Option.some.injEq, Prod.mk.injEq] at e2
      obtain ⟨rfl, rfl, rfl⟩ := e2
      have hq : ∃ q, w.heap[b]? = some q ∧ OR r o q := by cases o <;> first | exact hat | exact absurd rfl (hn1 _ _ _)
      obtain ⟨q, e3, e4⟩ := hq
      obtain ⟨s1, b1, w', g1, g2⟩ := ih o (k' q) r H w a H' (ht.2 o q e4) hr he
      refine ⟨s1, b1, w', ?_, g2⟩
      simp only [Sem.run, e3]
      cases q <;> first | exact g1 | (obtain ⟨c, e, f, h⟩ := e4.cells_iff ⟨_, _, _, rfl⟩; subst h; exact absurd rfl (hn1 _ _ _))
    · cases he
  | setObj i o k ih =>
    intro t' r H w a H' ht hr he
    cases t' <;> simp only [TR] at ht
    rename_i i' o' k'
    simp only [ar] at he
    split at he
    · cases he
    rename_i hnc
    simp only [Bool.or_eq_true, decide_eq_true_eq, not_or, Nat.not_lt] at hnc
    have hN0 : H.lo ≤ i := hnc.2
    replace hnc := hnc.1
    split at he
    · cases he
    · cases he
    · rename_i o1 hn1 hn2 hg
      have hl : lives o1 = true := by cases o1 <;> first | rfl | exact absurd rfl (hn2 _)
      obtain ⟨b, s, x, e1, hN, hat⟩ := hr.obj _ _ hg hl
      obtain ⟨p, y, e2⟩ := ht.1
      have e1' := e1
      rw [e1] at e2
      simp only [Option.some.injEq, Prod.mk.injEq] at e2
      obtain ⟨rfl, rfl, rfl⟩ := e2
      have hq : ∃ q, w.heap[b]? = some q ∧ OR r o1 q := by cases o1 <;> first | exact hat | exact absurd rfl (hn1 _ _ _)
      obtain ⟨q, e3, e4⟩ := hq
      have hbl : b < w.heap.size := h_lt e3
      have hrel : Ex P G N r H w r (H.set i o) { w with heap := w.heap.setIfInBounds b o' } := Ex.put hr hg hl hN0 e1' (by simp) (fun k hk => by show (w.heap.setIfInBounds b o')[k]? = _; rw [Array.getElem?_setIfInBounds, if_neg (fun e => hk e.symm)])
          (by show ObjAt P r s x o (w.heap.setIfInBounds b o')[b]?; rw [Array.getElem?_setIfInBounds, if_pos rfl, if_pos hbl]; cases o <;> first | exact ⟨o', rfl, ht.2.1⟩ | exact absurd rfl hnc) rfl rfl rfl
      obtain ⟨s1, b1, w', g1, g2, g3⟩ := ih k' r _ _ a H' ht.2.2 hrel.rel he
      refine ⟨s1, b1, w', ?_, g2, hrel.trans g3⟩
      simp only [Sem.run, e3]
      cases q <;> first | exact g1 | (obtain ⟨c, e, f, h⟩ := e4.cells_iff ⟨_, _, _, rfl⟩; subst h; exact absurd rfl (hn1 _ _ _))
    · cases he
  | program k ih =>
    intro t' r H w a H' ht hr he
    cases t' <;> simp only [TR] at ht
    rename_i k'
    simp only [ar] at he
    exact ih P (k' P) r H w a H' ht hr he
  | mark m k ih =>
    intro t' r H w a H' ht hr he
    cases t' <;> simp only [TR] at ht
    rename_i m' k'
    simp only [ar] at he
    exact ih k' r H w a H' ht hr he
  | halt h => intro t' r H w a H' ht hr he; simp [ar] at he
  | shape _ _ _ => intro t' r H w a H' ht hr he; simp [ar] at he
  | freeze _ _ _ _ => intro t' r H w a H' ht hr he; simp [ar] at he
  | frozen _ _ _ => intro t' r H w a H' ht hr he; simp [ar] at he
  | choose _ _ _ => intro t' r H w a H' ht hr he; simp [ar] at he
  | sys _ _ _ => intro t' r H w a H' ht hr he; simp [ar] at he

end Go.Eng
