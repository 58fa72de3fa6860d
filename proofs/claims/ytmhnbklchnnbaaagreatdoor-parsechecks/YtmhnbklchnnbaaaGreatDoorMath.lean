namespace Go.Proofs.YtmhnbklchnnbaaaGreatDoor
set_option linter.unusedVariables false
def letterB (c : Nat) : Bool := decide (97 ≤ c ∧ c ≤ 122) || decide (65 ≤ c ∧ c ≤ 90) || decide (c = 95)
def digitB (c : Nat) : Bool := decide (48 ≤ c ∧ c ≤ 57)
def wordB (c : Nat) : Bool := letterB c || digitB c
def blankB (c : Nat) : Bool := decide (c = 9) || decide (c = 10) || decide (c = 13) || decide (c = 32)
def endsB (c : Nat) : Bool := decide (c < 32) || decide (c = 127)
def plainB (c : Nat) : Bool := decide (32 ≤ c) && decide (c ≠ 34) && decide (c ≠ 92) && decide (c ≠ 127)
def hexN (c : Nat) : Nat := if digitB c then c - 48 else if 97 ≤ c ∧ c ≤ 102 then c - 97 + 10 else if 65 ≤ c ∧ c ≤ 70 then c - 65 + 10 else 16
def blankN : Bool → List Nat → Nat
  | _, [] => 0
  | true, c :: r => 1 + blankN (decide (c ≠ 10)) r
  | false, c :: r => if c = 47 ∧ r.head? = some 47 then 1 + blankN true r else if blankB c then 1 + blankN false r else 0
def wordN (l : List Nat) : Nat := (l.takeWhile wordB).length
def digN (l : List Nat) : Nat := (l.takeWhile digitB).length
def valN (ds : List Nat) : Nat := ds.foldl (fun n c => 10 * n + (c - 48)) 0
def topN (sfx : List Nat) : Nat := if sfx = [105, 56] then 255 else if sfx = [105, 51, 50] then 4294967295 else 18446744073709551615
def sfxB (sfx : List Nat) : Bool := decide (sfx = []) || decide (sfx = [105, 56]) || decide (sfx = [105, 51, 50]) || decide (sfx = [105, 54, 52])
def escN (r : List Nat) : Except Nat (Nat × Nat) :=
  match r with
  | [] => .error 31
  | c :: r1 =>
    if endsB c then .error 31
    else if c = 34 ∨ c = 92 then .ok (c, 2) else if c = 110 then .ok (10, 2) else if c = 116 then .ok (9, 2) else if c = 114 then .ok (13, 2)
    else if c = 120 then
      match r1 with
      | [] => .error 31
      | d :: r2 =>
        if endsB d then .error 31 else if hexN d = 16 then .error 32
        else match r2 with
          | [] => .error 31
          | e :: _ => if endsB e then .error 31 else if hexN e = 16 then .error 32 else .ok (16 * hexN d + hexN e, 4)
    else .error 32
def textN : Nat → List Nat → Except (Option Nat × Nat) (List Nat × Nat)
  | 0, _ => .error (none, 31)
  | _ + 1, [] => .error (none, 31)
  | f + 1, c :: r =>
    if endsB c then .error (none, 31) else if c = 34 then .ok ([], 1)
    else if plainB c then
      match textN f r with
      | .ok (out, n) => .ok (c :: out, n + 1)
      | .error (some p, e) => .error (some (p + 1), e)
      | .error (none, e) => .error (none, e)
    else
      match escN r with
      | .error e => if e = 31 then .error (none, 31) else .error (some 0, e)
      | .ok (b, k) =>
        match textN f (r.drop (k - 1)) with
        | .ok (out, n) => .ok (b :: out, n + k)
        | .error (some p, e) => .error (some (p + k), e)
        | .error (none, e) => .error (none, e)
def hasB (l x : List Nat) : Bool := decide (l.take x.length = x)
def signL : List (List Nat) := [[60, 60], [62, 62], [61, 61], [33, 61], [60, 61], [62, 61], [38, 38], [124, 124], [40], [41], [123], [125], [91], [93], [44], [59], [58], [46], [43], [45], [42], [47], [37], [38], [124], [94], [126], [33], [60], [62], [61]]
def signX (l : List Nat) : Option (List Nat) := signL.find? fun x => hasB l x
def oneN (l : List Nat) : Except (Nat × Nat) (Nat × List Nat × Nat × Nat) :=
  match l with
  | [] => .error (0, 30)
  | c :: r =>
    if letterB c then .ok (1, l.takeWhile wordB, 0, wordN l)
    else if digitB c then
      let ds := l.takeWhile digitB
      let sfx := (l.drop ds.length).takeWhile wordB
      if sfxB sfx ∧ valN ds ≤ topN sfx then .ok (2, sfx, valN ds, ds.length + sfx.length) else .error (0, 33)
    else if c = 34 then
      match textN (r.length + 1) r with
      | .ok (out, n) => .ok (3, out, 0, n + 1)
      | .error (some p, e) => .error (p + 1, e)
      | .error (none, e) => .error (0, e)
    else match signX l with
      | none => .error (0, 30)
      | some x => .ok (4, x, 0, x.length)
def toksN : Nat → Nat → Nat → List Nat → Except (Nat × Nat) (List (Nat × List Nat × Nat × Nat × Nat))
  | 0, _, _, _ => .ok []
  | f + 1, k, at0, l =>
    let b := blankN false l
    if l.drop b = [] then .ok []
    else if k = 32768 then .error (at0 + b, 3)
    else match oneN (l.drop b) with
      | .error (p, e) => .error (at0 + b + p, e)
      | .ok (kd, tx, n, len) =>
        match toksN f (k + 1) (at0 + b + len) (l.drop (b + len)) with
        | .error x => .error x
        | .ok ts => .ok ((kd, tx, n, at0 + b, at0 + b + len) :: ts)
def tokens (l : List Nat) : Except (Nat × Nat) (List (Nat × List Nat × Nat × Nat × Nat)) :=
  if 65536 < l.length then .error (0, 3) else toksN (l.length + 1) 0 0 l
def keptL : List (List Nat) := [[114, 101, 99, 111, 114, 100], [102, 110], [118, 97, 114], [105, 102], [101, 108, 115, 101], [119, 104, 105, 108, 101], [102, 111, 114], [115, 119, 105, 116, 99, 104], [99, 97, 115, 101], [100, 101, 102, 97, 117, 108, 116], [98, 114, 101, 97, 107], [99, 111, 110, 116, 105, 110, 117, 101], [114, 101, 116, 117, 114, 110], [116, 114, 97, 112], [110, 101, 119], [116, 114, 117, 101], [102, 97, 108, 115, 101], [105, 56], [105, 51, 50], [105, 54, 52], [98, 111, 111, 108], [98, 121, 116, 101, 115], [108, 101, 110], [99, 117, 116], [98, 121, 116, 101], [112, 117, 115, 104], [112, 111, 112]]
def keptB (l : List Nat) : Bool := decide (l ∈ keptL)
def nameB (l : List Nat) : Bool :=
  match l with
  | [] => false
  | c :: _ => letterB c && decide (wordN l = l.length) && !keptB l
end Go.Proofs.YtmhnbklchnnbaaaGreatDoor
