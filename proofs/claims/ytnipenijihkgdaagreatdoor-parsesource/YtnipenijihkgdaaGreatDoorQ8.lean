import Derived.Test.YtnipenijihkgdaaGreatDoorJOne
import Derived.Test.YtnipenijihkgdaaGreatDoorRows
import Derived.Test.YtnipenijihkgdaaGreatDoorJXLow
import Derived.ProofKit
import Derived.LaidMore
import Derived.LaidLaws
import Derived.Stop.LaidErr
import Derived.OpenShut
import Derived.Stop.Joined
namespace Go.Proofs.YtnipenijihkgdaaGreatDoor
set_option linter.unusedVariables false
theorem oE0 (c:Nat) (h:dH c ≠ 16):dH c < 16:=by
 unfold dH at h ⊢
 split
 · rename_i hd
   unfold aY at hd
   simp at hd
   omega
 rename_i hd
 rw [if_neg hd] at h
 split
 · omega
 rename_i h2
 rw [if_neg h2] at h
 split
 · omega
 rename_i h3
 rw [if_neg h3] at h
 exact absurd rfl h
theorem uH0 {r:List Nat} {b k:Nat} (h:jI r = .ok (b,k)):b < 256∧2≤k:=by
 cases r with
 | nil=>simp [jI] at h
 | cons c r1=>?_
 unfold jI at h
 simp only at h
 split at h
 · cases h
 split at h
 · rename_i hc; cases h; omega
 split at h
 · cases h; omega
 split at h
 · cases h; omega
 split at h
 · cases h; omega
 split at h
 · cases r1 with
   | nil=>cases h
   | cons d r2=>?_
   simp only at h
   split at h
   · cases h
   split at h
   · cases h
   rename_i hd
   cases r2 with
   | nil=>cases h
   | cons e r3=>?_
   simp only at h
   split at h
   · cases h
   split at h
   · cases h
   rename_i he
   cases h
   have:=oE0 d hd
   have:=oE0 e he
   omega
 cases h
theorem jM0 : ∀ (f:Nat) (l o:List Nat) (n:Nat),dV f l = .ok (o,n)→(∀ c ∈ l,c < 256)→(∀ c ∈ o,c < 256)∧o.length≤f:=by
 intro f
 induction f with
 | zero=>intro l o n h; simp [dV] at h
 | succ f ih=>?_
 intro l o n h hl
 cases l with
 | nil=>simp [dV] at h
 | cons c r=>?_
 unfold dV at h
 split at h
 · cases h
 split at h
 · cases h; exact ⟨by simp,by simp⟩
 split at h
 · cases hr:dV f r with
   | error x=>rw [hr] at h; obtain ⟨p,e⟩:=x; cases p <;> cases h
   | ok x=>?_
   obtain ⟨o1,n1⟩:=x
   rw [hr] at h
   cases h
   obtain ⟨g1,g2⟩:=ih r o1 n1 hr fun d hd=>hl d (List.mem_cons_of_mem _ hd)
   refine ⟨fun d hd=>?_,by simp; omega⟩
   rcases List.mem_cons.1 hd with rfl | hd
   · exact hl _ (by simp)
   exact g1 d hd
 cases he:jI r with
 | error e=>rw [he] at h; simp only at h; split at h <;> cases h
 | ok x=>?_
 obtain ⟨b,k⟩:=x
 rw [he] at h
 simp only at h
 cases hr:dV f (r.drop (k - 1)) with
 | error x=>rw [hr] at h; obtain ⟨p,e⟩:=x; cases p <;> cases h
 | ok x=>?_
 obtain ⟨o1,n1⟩:=x
 rw [hr] at h
 cases h
 obtain ⟨g1,g2⟩:=ih _ o1 n1 hr fun d hd=>hl d (List.mem_cons_of_mem _ (List.mem_of_mem_drop hd))
 refine ⟨fun d hd=>?_,by simp; omega⟩
 rcases List.mem_cons.1 hd with rfl | hd
 · exact (uH0 he).1
 exact g1 d hd
theorem kY0 (x:List Nat) (h:x ∈ fY):(∀ c ∈ x,c < 256)∧x.length≤2:=by
 have:∀ x ∈ fY,(∀ c ∈ x,c < 256)∧x.length≤2:=by decide
 exact this x h
theorem pO (q:Nat→Bool) (l:List Nat) (hl:∀ c ∈ l,c < 256):(∀ c ∈ l.takeWhile q,c < 256)∧(l.takeWhile q).length≤l.length :=
 ⟨fun c hc=>hl c ((List.takeWhile_sublist q).subset hc),(List.takeWhile_sublist q).length_le⟩
theorem qW0 (l:List Nat) (kd:Nat) (tx:List Nat) (n len:Nat) (h:eU l = .ok (kd,tx,n,len)) (hl:∀ c ∈ l,c < 256):(∀ c ∈ tx,c < 256)∧tx.length≤l.length + 2:=by
 cases l with
 | nil=>simp [eU] at h
 | cons c r=>?_
 unfold eU at h
 simp only at h
 split at h
 · cases h
   have:=pO cO (c :: r) hl
   exact ⟨this.1,by omega⟩
 split at h
 · split at h
   · cases h
     have:=pO cO ((c :: r).drop ((c :: r).takeWhile aY).length) fun d hd=>hl d (List.mem_of_mem_drop hd)
     exact ⟨this.1,by have:=this.2; rw [List.length_drop] at this; omega⟩
   cases h
 split at h
 · cases hr:dV (r.length + 1) r with
   | error x=>rw [hr] at h; obtain ⟨p,e⟩:=x; cases p <;> cases h
   | ok x=>?_
   obtain ⟨o1,n1⟩:=x
   rw [hr] at h
   cases h
   have:=jM0 _ _ _ _ hr fun d hd=>hl d (List.mem_cons_of_mem _ hd)
   exact ⟨this.1,by simp; omega⟩
 cases hs:kD (c :: r) with
 | none=>rw [hs] at h; cases h
 | some x=>?_
 rw [hs] at h
 cases h
 have:=kY0 _ (List.mem_of_find?_eq_some hs)
 exact ⟨this.1,by omega⟩
theorem jR0 : ∀ (f k at0:Nat) (l:List Nat) (ts:List (Nat × List Nat × Nat × Nat × Nat)),iS f k at0 l = .ok ts→(∀ c ∈ l,c < 256)→ts.length≤f∧∀ t ∈ ts,(∀ c ∈ t.2.1,c < 256)∧t.2.1.length≤l.length + 2:=by
 intro f
 induction f with
 | zero=>intro k at0 l ts h hl; simp [iS] at h; subst h; exact ⟨by simp,by simp⟩
 | succ f ih=>?_
 intro k at0 l ts h hl
 unfold iS at h
 simp only at h
 split at h
 · cases h; exact ⟨by simp,by simp⟩
 split at h
 · cases h
 cases ho:eU (l.drop (aP false l)) with
 | error x=>rw [ho] at h; cases h
 | ok x=>?_
 obtain ⟨kd,tx,n,len⟩:=x
 rw [ho] at h
 simp only at h
 cases hr:iS f (k + 1) (at0 + aP false l + len) (l.drop (aP false l + len)) with
 | error x=>rw [hr] at h; cases h
 | ok us=>?_
 rw [hr] at h
 cases h
 obtain ⟨g1,g2⟩:=ih _ _ _ _ hr fun c hc=>hl c (List.mem_of_mem_drop hc)
 refine ⟨by simp; omega,fun t ht=>?_⟩
 rcases List.mem_cons.1 ht with rfl | ht
 · have:=qW0 _ _ _ _ _ ho fun c hc=>hl c (List.mem_of_mem_drop hc)
   rw [List.length_drop] at this
   exact ⟨this.1,by have:=this.2; simp only; omega⟩
 have:=g2 t ht
 rw [List.length_drop] at this
 exact ⟨this.1,by omega⟩
theorem iO (l:List Nat) (ts:List (Nat × List Nat × Nat × Nat × Nat)) (h:gC l = .ok ts) (hl:∀ c ∈ l,c < 256):ts.length≤65537∧∀ t ∈ ts,(∀ c ∈ t.2.1,c < 256)∧t.2.1.length≤1048576:=by
 unfold gC at h
 split at h
 · cases h
 rename_i hn
 obtain ⟨h1,h2⟩:=jR0 _ _ _ _ _ h hl
 exact ⟨by omega,fun t ht=>⟨(h2 t ht).1,by have:=(h2 t ht).2; omega⟩⟩
open Go.ChangeShapes Go.WideShapes Go.ChangeAt Go.RowKit
theorem own : ownKnob Tryz.prog.godebug = none:=by kernel_rfl
def tJ : List (String × DataW Unit):=Rows.parseSourceRow.laid
theorem nS0 : Tryz.prog.globalNamed "strconv.ErrRange" = some 2 := by kernel_rfl
theorem uR0 : (Tryz.prog.globals[2]?).map (·.type) = some 133:=by kernel_rfl
theorem mO0 : Tryz.prog.cellsOf 158 = 1:=by kernel_rfl
theorem qJ0 : Tryz.prog.cellsOf 9 = 1:=by kernel_rfl
theorem iM0 : "*" ++ "errors.errorString" = "*errors.errorString" := by decide
theorem yW0 (u : TypeId) (h : Tryz.prog.typeName? 3 u = some "*errors.errorString") : u = 156 :=
 typeName_ptr_named (nm := "errors.errorString") (by rw [iM0]; kernel_rfl) (by kernel_rfl) (by decide) u (by rw [iM0]; exact h)
theorem dQ0 (os:Os) (args:Array Value):laidMetH Tryz.prog tJ ((World.doorLaid Tryz.prog 62 os).forCall (fun _ _=>0) ⟨#[],args,[]⟩).memory :=
 laidMetH_of_parts3 (fuel:=8) (laidMet_of_run' 8 (by kernel_rfl) (by kernel_rfl)) (by kernel_rfl) (by kernel_rfl)
theorem iS0 {W:World} (h:laidMetH Tryz.prog tJ W):jM W:=by
 rw [MakeChecks.laidMetH_plain _ _ _ (by kernel_rfl)] at h
 have h3:=h.tail.tail.tail
 obtain ⟨a,s,hv,_,_,_⟩:=laid_sentinel h3 nS0 uR0 Tryz.underlying133 yW0 Tryz.underlying156 Tryz.underlying158 rfl rfl Tryz.underlying9 mO0 qJ0
 have hc:W.cell? ⟨2,0,none⟩ = some (.iface 156 (.pointer (some a))):=by
  have h0:=World.var?_cell nS0 hv 0
  simpa using h0
 refine ⟨?_,_,_,hc⟩
 unfold World.cell? at hc
 cases hq:W.heap[2]? with
 | none=>rw [hq] at hc; simp at hc
 | some o=>exact (Array.getElem?_eq_some_iff.1 hq).1
end Go.Proofs.YtnipenijihkgdaaGreatDoor
