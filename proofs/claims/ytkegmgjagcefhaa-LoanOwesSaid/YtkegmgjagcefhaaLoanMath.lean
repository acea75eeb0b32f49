/- Of layer 14: a loan as its cells are, and what each call tells of it, in plain words. -/
import Derived.Test.YtkegmgjagcefhaaBox
import Derived.Test.YtkegmgjagcefhaaAccrue
import Derived.OpenShut
namespace Go.Proofs.Ytkegmgjagcefhaa.Loan
open Go.ChangeShapes Go.WideShapes Go.ChangeAt Go.RowKit Accr Box

structure Ln where
  id : Int
  prin : Int
  intr : Int
  subs : Int
  fees : Int
  ppm : Int
  subd : Bool
  status : Int
  closed : Int
  entered : Int
  level : Int
  far : Int
  count : Int
def ln0 : Ln := ⟨0, 0, 0, 0, 0, 0, false, 0, 0, 0, 0, 0, 0⟩
/-- Its cells. -/
def Ln.cells (l : Ln) : Array Value := #[.int .i64 l.id, .int .i64 l.prin, .int .i64 l.intr, .int .i64 l.subs, .int .i64 l.fees, .int .i64 l.ppm, .bool l.subd, .int .i64 l.status, .int .i64 l.closed, .int .i64 l.entered, .int .i64 l.level, .int .i64 l.far, .int .i64 l.count]
/-- Are all fields alike? -/
def eqL (a b : Ln) : Bool := decide (a.id = b.id ∧ a.prin = b.prin ∧ a.intr = b.intr ∧ a.subs = b.subs ∧ a.fees = b.fees ∧ a.ppm = b.ppm ∧ a.subd = b.subd ∧ a.status = b.status ∧ a.closed = b.closed ∧ a.entered = b.entered ∧ a.level = b.level ∧ a.far = b.far ∧ a.count = b.count)
theorem eqL_iff {a b : Ln} : eqL a b = true ↔ a = b := by
  unfold eqL
  rw [decide_eq_true_iff]
  constructor
  · intro h
    cases a; cases b
    simp only [Ln.mk.injEq]
    exact h
  · rintro rfl
    exact ⟨rfl, rfl, rfl, rfl, rfl, rfl, rfl, rfl, rfl, rfl, rfl, rfl, rfl⟩
theorem eqL_self (a : Ln) : eqL a a = true := eqL_iff.2 rfl
/-- Is n from a to b? -/
def wB (n a b : Int) : Bool := decide (a ≤ n ∧ n ≤ b)
theorem wB_iff {n a b : Int} : wB n a b = true ↔ a ≤ n ∧ n ≤ b := by unfold wB; rw [decide_eq_true_iff]
theorem wB_not {n a b : Int} : wB n a b = false ↔ ¬ (a ≤ n ∧ n ≤ b) := by unfold wB; rw [decide_eq_false_iff_not]
def balB (l : Ln) : Bool := wB l.prin 0 10000000000000 && wB l.fees 0 10000000000000 && wB l.intr 0 1000000000000000000 && wB l.subs 0 1000000000000000000
def termB (l : Ln) : Bool := wB l.ppm 0 1000000 && wB l.status 1 5 && wB l.closed 0 4 && wB l.entered (-1) 87658 && wB l.level 0 10000000000000 && wB l.far 0 10000000000000 && decide (0 ≤ l.count)
def openB (l : Ln) : Bool := l.closed == 0
def emptyB (l : Ln) : Bool := l.prin == 0 && l.intr == 0 && l.fees == 0
/-- Is it good? -/
def goodL (l : Ln) : Bool := wB l.id 1 1000 && balB l && termB l && (openB l || emptyB l)
structure Good (l : Ln) : Prop where
  id0 : 1 ≤ l.id
  id1 : l.id ≤ 1000
  prin0 : 0 ≤ l.prin
  prin1 : l.prin ≤ 10000000000000
  fees0 : 0 ≤ l.fees
  fees1 : l.fees ≤ 10000000000000
  intr0 : 0 ≤ l.intr
  intr1 : l.intr ≤ 1000000000000000000
  subs0 : 0 ≤ l.subs
  subs1 : l.subs ≤ 1000000000000000000
  ppm0 : 0 ≤ l.ppm
  ppm1 : l.ppm ≤ 1000000
  status0 : 1 ≤ l.status
  status1 : l.status ≤ 5
  closed0 : 0 ≤ l.closed
  closed1 : l.closed ≤ 4
  entered0 : -1 ≤ l.entered
  entered1 : l.entered ≤ 87658
  level0 : 0 ≤ l.level
  level1 : l.level ≤ 10000000000000
  far0 : 0 ≤ l.far
  far1 : l.far ≤ 10000000000000
  count0 : 0 ≤ l.count
  empty : l.closed = 0 ∨ (l.prin = 0 ∧ l.intr = 0 ∧ l.fees = 0)
theorem goodL_iff {l : Ln} : goodL l = true ↔ Good l := by
  unfold goodL balB termB openB emptyB
  simp only [Bool.and_eq_true, Bool.or_eq_true, beq_iff_eq, wB_iff, decide_eq_true_iff]
  constructor
  · rintro ⟨⟨⟨⟨a0, a1⟩, ⟨⟨⟨b0, b1⟩, c0, c1⟩, d0, d1⟩, e0, e1⟩, ⟨⟨⟨⟨⟨⟨f0, f1⟩, g0, g1⟩, h0, h1⟩, i0, i1⟩, j0, j1⟩, k0, k1⟩, m0⟩, n⟩
    exact ⟨a0, a1, b0, b1, c0, c1, d0, d1, e0, e1, f0, f1, g0, g1, h0, h1, i0, i1, j0, j1, k0, k1, m0, n.imp id fun h => ⟨h.1.1, h.1.2, h.2⟩⟩
  · intro h
    exact ⟨⟨⟨⟨h.id0, h.id1⟩, ⟨⟨⟨h.prin0, h.prin1⟩, h.fees0, h.fees1⟩, h.intr0, h.intr1⟩, h.subs0, h.subs1⟩, ⟨⟨⟨⟨⟨⟨h.ppm0, h.ppm1⟩, h.status0, h.status1⟩, h.closed0, h.closed1⟩, h.entered0, h.entered1⟩, h.level0, h.level1⟩, h.far0, h.far1⟩, h.count0⟩, h.empty.imp id fun h => ⟨⟨h.1, h.2.1⟩, h.2.2⟩⟩
/-- The whole cents of interest. -/
def centsL (l : Ln) : Int := wholeI l.intr
def sumL (l : Ln) : Int := l.prin + l.fees + centsL l
def owesR (l : Ln) : Int × Int := if goodL l then (if sumL l ≤ 10000000000000 then (sumL l, 0) else (0, 14)) else (0, 1)
def sparedB (l : Ln) : Bool := l.subd && decide (l.status ≤ 3)
def dayB (d : Int) : Bool := wB d 0 87658
/-- The interest of some days more, on an open loan. -/
def accO (l : Ln) (d : Int) : Ln × Int :=
  if sparedB l then (if aE l.subs l.prin l.ppm d = 0 then ({ l with subs := aV l.subs l.prin l.ppm d }, 0) else (ln0, aE l.subs l.prin l.ppm d))
  else (if aE l.intr l.prin l.ppm d = 0 then ({ l with intr := aV l.intr l.prin l.ppm d }, 0) else (ln0, aE l.intr l.prin l.ppm d))
def accR (l : Ln) (d : Int) : Ln × Int := if goodL l && dayB d then (if openB l then accO l d else (l, 0)) else (ln0, 1)
/-- Capitalized. -/
def capL (l : Ln) : Ln := { l with prin := l.prin + centsL l, intr := l.intr - centsL l * 1000000 }
def capO (l : Ln) : Ln × Int := if l.prin + centsL l ≤ 10000000000000 then (capL l, 0) else (ln0, 14)
def capR (l : Ln) : Ln × Int := if goodL l then (if openB l then capO l else (ln0, 61)) else (ln0, 1)
/-- May it turn into this status? -/
def mayB (l : Ln) (s : Int) : Bool := wB s 1 5 && !(s == l.status) && (if s = 1 then decide (l.entered < 0) && !(l.status == 2) else if s = 2 then decide (l.entered < 0) else true)
def turnO (l : Ln) (s d : Int) : Ln × Int :=
  if s = 5 then (if l.prin + centsL l ≤ 10000000000000 then ({ capL l with entered := d, status := s }, 0) else (ln0, 14)) else ({ l with status := s }, 0)
def turnR (l : Ln) (s d : Int) : Ln × Int := if goodL l && dayB d then (if openB l then (if mayB l s then turnO l s d else (ln0, 62)) else (ln0, 61)) else (ln0, 1)
def amountB (a : Int) : Bool := wB a 1 1000000000
def feeR (l : Ln) (a : Int) : Ln × Int := if goodL l && amountB a then (if openB l then (if l.fees + a ≤ 10000000000000 then ({ l with fees := l.fees + a }, 0) else (ln0, 14)) else (ln0, 61)) else (ln0, 1)
def drawR (l : Ln) (a : Int) : Ln × Int := if goodL l && amountB a then (if openB l then (if l.prin + a ≤ 10000000000000 then ({ l with prin := l.prin + a }, 0) else (ln0, 14)) else (ln0, 61)) else (ln0, 1)
/-- Closed as something. -/
def shutL (l : Ln) (how : Int) : Ln := { l with prin := 0, intr := 0, fees := 0, closed := how }
def notB (f i p : Int) : Bool := decide (0 ≤ f) && decide (0 ≤ i) && decide (0 ≤ p)
def hasB (l : Ln) (f i p : Int) : Bool := decide (f ≤ l.fees) && decide (i ≤ centsL l) && decide (p ≤ l.prin)
def lessL (l : Ln) (f i p : Int) : Ln := { l with fees := l.fees - f, intr := l.intr - i * 1000000, prin := l.prin - p }
def paidB (l : Ln) : Bool := l.fees == 0 && centsL l == 0 && l.prin == 0
def payO (l : Ln) (f i p : Int) : Ln := if paidB (lessL l f i p) then shutL (lessL l f i p) 1 else lessL l f i p
def payR (l : Ln) (f i p : Int) : Ln × Int := if goodL l && notB f i p then (if openB l then (if hasB l f i p then (payO l f i p, 0) else (ln0, 14)) else (ln0, 61)) else (ln0, 1)
/-- What Close tells: the loan, what it owed, the error. -/
def closeR (l : Ln) (how : Int) : Ln × Int × Int := if goodL l && wB how 1 4 then (if openB l then (if sumL l ≤ 10000000000000 then (shutL l how, sumL l, 0) else (ln0, 0, 14)) else (ln0, 0, 61)) else (ln0, 0, 1)
theorem ln_size (l : Ln) : l.cells.size = 13 := rfl
theorem ln_one (l : Ln) : l.cells.all (·.oneCell') = true := by simp [Ln.cells, Value.oneCell']
theorem ln_info (l : Ln) : (Try.prog.info? 23).map (·.size) = some l.cells.size := by
  show _ = some 13
  kernel_rfl
theorem ln_info' (l : Ln) : (Try.prog.info? 23).map (·.size) = some l.cells.toList.length := by
  show _ = some 13
  kernel_rfl
theorem i64_one : (Try.prog.info? 2).map (·.size) = some 1 := by kernel_rfl
theorem int_one : (Try.prog.info? 3).map (·.size) = some 1 := by kernel_rfl
theorem err_one : (Try.prog.info? 24).map (·.size) = some 1 := by kernel_rfl
end Go.Proofs.Ytkegmgjagcefhaa.Loan
