/-
  Runs of programs in single assignment over plain data.
-/
import Derived.Test.YtagagpappjkgbaaJx1
import Derived.Test.YtagagpappjkgbaaJx2
namespace Go.Proofs.Ytagagpappjkgbaa
set_option linter.unusedVariables false
set_option linter.unusedSimpArgs false
open Go.RowKit

/-- A number, or which rows. -/
structure XV where
  n : Int
  of_ : Option Nat
structure XPl where
  v : XV
  deep : Int
structure XT where
  rows : Int
  cols : Int
  cells : List Int
structure XC where
  which : Nat
  block : Nat
  at_ : Nat
  args : Nat
  kept : Nat
structure XK where
  fn : Nat
  id : Nat
  was : XPl
structure XR where
  inn : List Int
  left : Int
  events : List Int
  stop : Option (Int × Int)
  now : XC
  outer : List XC
  args : List XV
  kept : List XK
  coming : List XV
  places : List (List XPl)
  tabs : List XT

def stopX (r : XR) (how v : Int) : XR := { r with stop := some (how, v) }
def takeX (r : XR) (n : Int) : XR := if r.left < n then stopX { r with left := 0 } 0 0 else { r with left := r.left - n }
def deepX (r : XR) : Nat := r.outer.length + 1
def getX (r : XR) (id : Int) : Option XV := if 0 ≤ id then ((r.places[r.now.which]?).bind fun p => p[id.toNat]?).map XPl.v else none
def setX (r : XR) (id : Int) (v : XV) : Option XR :=
  if 0 ≤ id ∧ r.kept.length < 1048576 then (r.places[r.now.which]?).bind fun ps => (ps[id.toNat]?).map fun p =>
    { r with
      kept := if p.deep = (deepX r : Int) then r.kept else r.kept ++ [⟨r.now.which, id.toNat, p⟩]
      places := r.places.set r.now.which (ps.set id.toNat ⟨v, (deepX r : Int)⟩) }
  else none
def enterX (r : XR) (which args : Nat) : XR := { r with now := ⟨which, 0, 0, args, r.kept.length⟩ }
def blkX (fs : List SF) (c : XC) : Option SB := (fs[c.which]?).bind fun f => f.blocks[c.block]?
/-- What was kept since a number is put back. -/
def backX (lo : Nat) : Nat → XR → Option XR
  | 0, r => if r.kept.length ≤ lo then some r else none
  | k + 1, r => if r.kept.length ≤ lo then some r else
    (r.kept.getLast?).bind fun q => (r.places[q.fn]?).bind fun ps => if q.id < ps.length then
      backX lo k { r with kept := r.kept.dropLast, places := r.places.set q.fn (ps.set q.id q.was) } else none
def leaveX (fs : List SF) (r : XR) (v : XV) : Option XR :=
  (backX r.now.kept r.kept.length r).bind fun r => if r.now.args ≤ r.args.length then
    let r := { r with args := r.args.take r.now.args }
    match r.outer.getLast? with
    | none => some (stopX r 1 v.n)
    | some c =>
      let r := { r with now := c, outer := r.outer.dropLast }
      (blkX fs r.now).bind fun k => if 1 ≤ r.now.at_ then (k.list[r.now.at_ - 1]?).bind fun id => setX r id v else none
  else none
/-- What comes over a way. -/
def comX (ins : List SIn) (from_ : Int) (r : XR) : List Int → List XV → Option (List XV)
  | [], acc => some acc
  | id :: ids, acc => if 0 ≤ id then (ins[id.toNat]?).bind fun x => if x.op = 3 then
      (if 0 ≤ from_ ∧ acc.length < 1048576 then (x.args[from_.toNat]?).bind fun a => (getX r a).bind fun v => comX ins from_ r ids (acc ++ [v]) else none) else some acc
    else none
def turnX (fs : List SF) (cm : List (List (Int × Int))) (r : XR) (way : Nat) : Option XR :=
  (fs[r.now.which]?).bind fun f => (cm[r.now.which]?).bind fun L => (L[r.now.block]?).bind fun c => (f.blocks[r.now.block]?).bind fun k =>
    (k.to_[way]?).bind fun t => if 0 ≤ t then
      let r := { r with now := { r.now with block := t.toNat, at_ := 0 } }
      (f.blocks[t.toNat]?).bind fun k2 => (comX f.ins (if way = 0 then c.1 else c.2) r k2.list []).map fun l => { r with coming := l }
    else none
def endX (fs : List SF) (cm : List (List (Int × Int))) (r : XR) : Option XR :=
  (blkX fs r.now).bind fun k =>
    if k.kind = 1 then turnX fs cm r 0
    else if k.kind = 2 then (getX r k.arg).bind fun v => turnX fs cm r (if v.n = 0 then 1 else 0)
    else if k.kind = 3 then (if k.arg < 0 then leaveX fs r ⟨0, none⟩ else (getX r k.arg).bind fun v => leaveX fs r v)
    else none
def argX (r : XR) (x : SIn) (i : Nat) : Option XV := (x.args[i]?).bind fun a => getX r a
def tabX (r : XR) (v : XV) : Option XT := v.of_.bind fun t => r.tabs[t]?
def belowX (n most : Int) : Bool := decide (0 ≤ n) && decide (n < most)
def createX (r : XR) (id : Int) (x : SIn) : Option XR :=
  (argX r x 0).bind fun n => (if x.op = 31 then (argX r x 1).map XV.n else some 1).bind fun m =>
    if !(belowX n.n 65537) || (!(belowX m 65537) || decide (65536 < n.n * m)) then some (stopX r 4 0)
    else if r.left < n.n * m then some (takeX r (n.n * m))
    else
      let r := takeX r (n.n * m)
      setX { r with tabs := r.tabs ++ [⟨n.n, m, List.replicate (n.n * m).toNat 0⟩] } id ⟨0, some r.tabs.length⟩
def cellX (r : XR) (id : Int) (x : SIn) : Option XR :=
  (argX r x 0).bind fun v => (v.of_).bind fun t => (r.tabs[t]?).bind fun T => (argX r x 1).bind fun i =>
    if !(belowX i.n T.cells.length) then some (stopX r 4 0)
    else if x.op = 32 then (argX r x 2).map fun u => { r with tabs := r.tabs.set t { T with cells := T.cells.set i.n.toNat u.n } }
    else (T.cells[i.n.toNat]?).bind fun c => setX r id ⟨c, none⟩
def inputX (r : XR) (id : Int) : Option XR := match r.inn with
  | [] => some (stopX r 2 4)
  | c :: l => (setX r id ⟨c, none⟩).map fun r => { r with inn := l }
def putsX (r : XR) : List Int → List XV → Option (List XV)
  | [], acc => some acc
  | a :: l, acc => if acc.length < 1048576 then (getX r a).bind fun v => putsX r l (acc ++ [v]) else none
def callX (r : XR) (x : SIn) : Option XR := if 0 ≤ x.to_ ∧ r.outer.length < 1048576 then
    (putsX r x.args r.args).map fun l => enterX { r with args := l, outer := r.outer ++ [r.now] } x.to_.toNat r.args.length
  else none
def reckonX (r : XR) (id : Int) (x : SIn) : Option XR :=
  (argX r x 0).bind fun a => if oneOk x.op then setX r id ⟨oneV x.op a.n, none⟩
    else (argX r x 1).bind fun b => if opOk x.op b.n then setX r id ⟨opV x.op a.n b.n, none⟩ else some (stopX r 4 0)
def doX (fs : List SF) (r : XR) (id : Int) (at_ : Nat) : Option XR :=
  (fs[r.now.which]?).bind fun f => if 0 ≤ id then (f.ins[id.toNat]?).bind fun x =>
    if x.op = 1 then setX r id ⟨x.n, none⟩
    else if x.op = 2 then (if 0 ≤ x.n ∧ x.n ≤ 1048576 then (r.args[r.now.args + x.n.toNat]?).bind fun v => setX r id v else none)
    else if x.op = 3 then (r.coming[at_]?).bind fun v => setX r id v
    else if x.op = 25 then (argX r x 0).bind fun c => (argX r x (if c.n = 0 then 2 else 1)).bind fun v => setX r id v
    else if x.op = 26 ∨ x.op = 27 then (argX r x 0).bind fun v => (tabX r v).bind fun T => setX r id ⟨T.rows, none⟩
    else if x.op = 28 then (argX r x 0).bind fun v => (tabX r v).bind fun T => setX r id ⟨T.cols, none⟩
    else if x.op = 30 ∨ x.op = 31 then createX r id x
    else if x.op = 29 ∨ x.op = 32 then cellX r id x
    else if x.op = 33 then (if r.events.length < 1048576 then (argX r x 0).map fun v => { r with events := r.events ++ [v.n] } else none)
    else if x.op = 34 then inputX r id
    else if x.op = 35 then (argX r x 0).map fun v => if v.n = 0 then stopX r 2 x.n else r
    else if x.op = 36 then callX r x
    else reckonX r id x
  else none
def stepX (fs : List SF) (cm : List (List (Int × Int))) (r : XR) : Option XR :=
  if r.left < 1 then some (takeX r 1) else
  let r := takeX r 1
  (blkX fs r.now).bind fun k => if r.now.at_ = k.list.length then endX fs cm r else
    (k.list[r.now.at_]?).bind fun id => doX fs { r with now := { r.now with at_ := r.now.at_ + 1 } } id r.now.at_
def runX (fs : List SF) (cm : List (List (Int × Int))) : Nat → XR → Option XR
  | 0, r => if r.stop.isSome then some r else none
  | k + 1, r => if r.stop.isSome then some r else (stepX fs cm r).bind (runX fs cm k)
/-- For each way its place in the Preds that it comes to. -/
def comeWay (b at_ : Int) : Nat → List Int → (Int × Int) → Option (Int × Int)
  | _, [], c => some c
  | way, t :: ts, c => if t = b then (if way = 0 then comeWay b at_ 1 ts (at_, c.2) else if way = 1 then comeWay b at_ 2 ts (c.1, at_) else none) else comeWay b at_ (way + 1) ts c
def comePreds (bl : List SB) (b : Int) : Nat → List Int → List (Int × Int) → Option (List (Int × Int))
  | _, [], L => some L
  | at_, f :: ps, L => if 0 ≤ f then (bl[f.toNat]?).bind fun k => (L[f.toNat]?).bind fun c => (comeWay b at_ 0 k.to_ c).bind fun c' => comePreds bl b (at_ + 1) ps (L.set f.toNat c') else none
def comeFrom (bl : List SB) : Nat → List SB → List (Int × Int) → Option (List (Int × Int))
  | _, [], L => some L
  | b, k :: ks, L => (comePreds bl b 0 k.preds L).bind fun L' => comeFrom bl (b + 1) ks L'
def layX (f : SF) : Option (List (Int × Int)) := comeFrom f.blocks 0 f.blocks (List.replicate f.blocks.length (0, 0))
def zeroP (f : SF) : List XPl := List.replicate f.ins.length ⟨⟨0, none⟩, 0⟩
def beginX (fs : List SF) (inn : List Int) (fuel : Int) (main : Nat) : XR :=
  enterX ⟨inn, fuel, [], none, ⟨0, 0, 0, 0, 0⟩, [], [], [], [], fs.map zeroP, []⟩ main 0
end Go.Proofs.Ytagagpappjkgbaa
