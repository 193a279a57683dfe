/-
  A whole expression.
  All readers of expressions, with any fuel.
  Statements that are being made, as they lie; rows of them.
  Statements with blocks.
  Blocks; a statement.
-/
import Derived.Test.YtiadbeglhnocoaaGreatDoorJb9
import Derived.Test.YtiadbeglhnocoaaGreatDoorJb25
import Derived.Test.YtiadbeglhnocoaaGreatDoorJb26
namespace Go.Proofs.YtiadbeglhnocoaaGreatDoor
set_option linter.unusedVariables false
set_option linter.unusedSimpArgs false
open Go.RowKit

set_option maxRecDepth 100000 in
set_option maxHeartbeats 4000000 in
theorem expr_any (k : Nat) (HBe : BeC k) (g : Nat) (s : PS) (r : Part × PS) (w : World) (hr : exprK (k + 1) s = some r) (hok : Ok (k + 1) s) (h : PAt w g s) :
    Calls Tryz.prog 88 #[.pointer (some ⟨g, 0, none⟩)] w (WholePost g NoB w r) := by
  have hgl := h.lt
  simp only [exprK] at hr
  obtain ⟨W, hW, hbW, hzW, hbR⟩ := one_al w #[.int .i64 0, .int .i64 0, .int .i64 0, .int .i64 0, .int .i64 0, .string ⟨#[]⟩, .slice none 0 0, .int .i64 0] 124
  have hX2 := HBe g 1 s r W hr (hok.less (Nat.le_succ k)) (by decide) (by decide) (h.keep hbW)
  have HR2 := Lib.hid hbR
  have hz2 : w.heap.size < W.heap.size := by omega
  have HSo : Hid (∀ b, NoB b → w.heap.size + 1 ≤ b ∧ b < W.heap.size) := Lib.hid (fun b hb => absurd hb (by unfold NoB; simp))
  have Hbut2 : Hid (But g w W) := Lib.hid (But.of_below hbW)
  have HW := Lib.hid hW
  rw [hW] at hX2
  clear hr hok h hbW hbR HBe hW
  go_enter Tryz.func88, Tryz.ntmps88
  go_wp2_with (first | (go_at_call 95; refine hX2.mono ?_; rintro e w3 ⟨v, rfl, hv, hp3, hb3⟩; rw [← HW.out] at hv hb3; obtain ⟨vk, va, vt, vo, vn, vs, kids, PK, c, d, hre, rfl, hk⟩ := hv; have HR3 := (hb3.block (w.heap.size) (by omega) (by omega)).trans HR2.out; obtain ⟨r0, r1, r2, r3, r4, r5, r6, r7, rf⟩ := cells8 HR3; have hz3 := Nat.lt_of_lt_of_le hz2 hb3.size; have Hv := Lib.hid (PartV.intro vk va vt vo vn vs kids PK c d hre hk); have Hp3 := Lib.hid hp3; have Hb3 := Lib.hid hb3; clear hk hb3 HR3 hX2 hp3 hre; unfold partV))
  refine bodyPost_ret (v := partV vk va vt vo vn vs PK kids.length (kids.length + c) d) (by simp [results, Tryz.results88, go_sem, partV, r0, r1, r2, r3, r4, r5, r6, r7]) rfl ?_
  refine own_end (N := 1) hgl ?_ Hv.out Hp3.out (Hbut2.out.trans Hb3.out) ?_ ?_
  · intro b hb'
    have := Hb3.out.size
    rcases hb' with h1 | ⟨h1, h2⟩
    · exact ⟨(HSo.out b h1).1, by have := (HSo.out b h1).2; omega⟩
    · exact ⟨by omega, by omega⟩
  · intro b hb1
    repeat (with_reducible refine (Below.heap_setCell _ _ _ _ (by simp; omega)).trans ?_)
    rfl
  · repeat (first | with_reducible exact Below.refl _ _ | with_reducible refine Below.setCell ?_ (by first | (simp; done) | (simp; omega)) _)
end Go.Proofs.YtiadbeglhnocoaaGreatDoor
namespace Go.Proofs.YtiadbeglhnocoaaGreatDoor
set_option linter.unusedVariables false
set_option linter.unusedSimpArgs false
open Go.RowKit

structure AllC (k : Nat) : Prop where
  ex : ExC k
  be : BeC k
  ah : AhC k
  fi : FiC k
  ca : CaC k
  ke : KeC k
theorem allC_zero : AllC 0 where
  ex := fun g s r w hr => by simp [exprK] at hr
  be := fun g least s r w hr => by simp [betwK] at hr
  ah := fun g s r w hr => by simp [aheadK] at hr
  fi := fun g s r w hr => by simp [firstK] at hr
  ca := fun g t s r w hr => by simp [calledK] at hr
  ke := fun g t s r w hr => by simp [keptK] at hr
theorem allC_succ (k : Nat) (ih : ∀ j, j ≤ k → AllC j) : AllC (k + 1) where
  ex := fun g s r w hr hok h => expr_any k (ih k (Nat.le_refl _)).be g s r w hr hok h
  be := fun g least s r w hr hok h0 h1 h => between_any k (ih k (Nat.le_refl _)).ah (fun j hj => (ih j (Nat.le_of_lt hj)).be) g least s r w hr hok h0 h1 h
  ah := fun g s r w hr hok h => ahead_any k (ih k (Nat.le_refl _)).fi (indexed_any k (fun j hj => prs_of j (fun i hi => (ih i (by omega)).ex))) (ih k (Nat.le_refl _)).ah g s r w hr hok h
  fi := fun g s r w hr hok h => first_any k (ih k (Nat.le_refl _)).ex (ih k (Nat.le_refl _)).ca (ih k (Nat.le_refl _)).ke g s r w hr hok h
  ca := fun g t s r w hr hok h => called_any k (prs_of k (fun j hj => (ih j (by omega)).ex)) g t s r w hr hok h
  ke := fun g t s r w hr hok h => keptP_any k (prs_of k (fun j hj => (ih j (by omega)).ex)) g t s r w hr hok h
theorem allC_le : ∀ k, ∀ j, j ≤ k → AllC j
  | 0, j, h => by obtain rfl : j = 0 := by omega
                  exact allC_zero
  | k + 1, j, h => by
    rcases Nat.lt_or_ge j (k + 1) with h1 | h1
    · exact allC_le k j (by omega)
    · obtain rfl : j = k + 1 := by omega
      exact allC_succ k (allC_le k)
theorem ex_c (k : Nat) : ExC k := (allC_le k k (Nat.le_refl _)).ex
theorem ca_c (k : Nat) : CaC k := (allC_le k k (Nat.le_refl _)).ca
theorem in_c (k : Nat) : InC k := indexed_any k (fun j _ => prs_of j (fun i _ => ex_c i))
end Go.Proofs.YtiadbeglhnocoaaGreatDoor
namespace Go.Proofs.YtiadbeglhnocoaaGreatDoor
set_option linter.unusedVariables false
set_option linter.unusedSimpArgs false
open Go.RowKit

/-- All but two blocks are as they were. -/
structure Bt (g q : Nat) (w w' : World) : Prop where
  os : w'.os = w.os
  tape : w'.tape = w.tape
  output : w'.output = w.output
  size : w.heap.size ≤ w'.heap.size
  block : ∀ k, k < w.heap.size → k ≠ g → k ≠ q → w'.heap[k]? = w.heap[k]?
theorem Bt.refl (g q : Nat) (w : World) : Bt g q w w := ⟨rfl, rfl, rfl, Nat.le_refl _, fun _ _ _ _ => rfl⟩
theorem Bt.of_but {g q : Nat} {w w' : World} (h : But g w w') : Bt g q w w' := ⟨h.os, h.tape, h.output, h.size, fun k h1 h2 _ => h.block k h1 h2⟩
theorem Bt.of_below {g q : Nat} {w w' : World} (h : Below w.heap.size w w') : Bt g q w w' := Bt.of_but (But.of_below h)
theorem Bt.trans {g q : Nat} {a b c : World} (h : Bt g q a b) (k : Bt g q b c) : Bt g q a c :=
  ⟨k.os.trans h.os, k.tape.trans h.tape, k.output.trans h.output, Nat.le_trans h.size k.size, fun i hi h1 h2 => (k.block i (Nat.lt_of_lt_of_le hi h.size) h1 h2).trans (h.block i hi h1 h2)⟩
theorem Bt.set (g q : Nat) (w : World) (j : Nat) (u : Value) : Bt g q w (w.setCell ⟨q, j, none⟩ u) :=
  ⟨rfl, rfl, rfl, by simp [World.setCell], fun k _ _ h2 => Below.heap_setCell _ _ _ _ h2⟩
theorem Bt.cell {g q : Nat} {w w' : World} (h : Bt g q w w') {p : Addr} (hp : p.block < w.heap.size) (h1 : p.block ≠ g) (h2 : p.block ≠ q) : w'.cell? p = w.cell? p := World.cell?_of_block (h.block _ hp h1 h2)
/-- The second block was not there: one is other. -/
theorem Bt.but {g q : Nat} {w W w' : World} (h : Bt g q W w') (hb : But g w W) (hq : w.heap.size ≤ q) : But g w w' :=
  ⟨h.os.trans hb.os, h.tape.trans hb.tape, h.output.trans hb.output, Nat.le_trans hb.size h.size, fun k hk hg => (h.block k (Nat.lt_of_lt_of_le hk hb.size) hg (by omega)).trans (hb.block k hk hg)⟩
theorem From.up {lo : Nat} {w w' : World} (h : w.heap.size ≤ w'.heap.size) {b : Nat} (hb : From lo w b) : From lo w' b := ⟨hb.1, Nat.lt_of_lt_of_le hb.2 h⟩
theorem From.lo {lo lo' : Nat} {w : World} (h : lo' ≤ lo) {b : Nat} (hb : From lo w b) : From lo' w b := ⟨Nat.le_trans h hb.1, hb.2⟩
theorem RdEs.bt {w w' : World} {g q lo : Nat} {A : Option Addr} {l : List Ex} (h : RdEs w (From lo w) A 0 l) (hb : Bt g q w w') (h1 : g < lo) (h2 : q < lo) : RdEs w' (From lo w') A 0 l :=
  RdEs.more (fun _ hS => hS.up hb.size) _ _ _ (RdEs.keep (w' := w') (fun p hp => hb.cell hp.2 (by have := hp.1; omega) (by have := hp.1; omega)) _ _ _ h)
theorem RdSs.bt {w w' : World} {g q lo : Nat} {A : Option Addr} {l : List St} (h : RdSs w (From lo w) A 0 l) (hb : Bt g q w w') (h1 : g < lo) (h2 : q < lo) : RdSs w' (From lo w') A 0 l :=
  RdSs.more (fun _ hS => hS.up hb.size) _ _ _ (RdSs.keep (w' := w') (fun p hp => hb.cell hp.2 (by have := hp.1; omega) (by have := hp.1; omega)) _ _ _ h)
/-- A statement, cell by cell. -/
def stC (k a n : Int) (z : ByteArray) (p : Int) (K : Option Addr) (m c : Nat) (B : Option Addr) (bm bc : Nat) (E : Option Addr) (em ec : Nat) : Array Value := #[.int .i64 k, .int .i64 a, .int .i64 n, .string z, .int .i64 p, .slice K m c, .slice B bm bc, .slice E em ec]
/-- As it is when it is begun. -/
def st0 (a : Int) : Array Value := #[.int .i64 0, .int .i64 a, .int .i64 0, .string ⟨#[]⟩, .int .i64 0, .slice none 0 0, .slice none 0 0, .slice none 0 0]
def StAt (w : World) (S : Nat → Prop) (q : Nat) (x : St) : Prop := ∃ k a n z p kids body els K kc B bc E ec, x = .mk k a n z p kids body els ∧ w.heap[q]? = some (.cells (stC k a n z p K kids.length kc B body.length bc E els.length ec) 77 (0, 0)) ∧ RdEs w S K 0 kids ∧ RdSs w S B 0 body ∧ RdSs w S E 0 els
/-- Where the parser stands, and what has been made of the statement. -/
structure St8 (g q : Nat) (w0 w : World) (s : PS) (cs : Array Value) : Prop where
  at_ : PAt w g s
  bt : Bt g q w0 w
  cell : w.heap[q]? = some (.cells cs 77 (0, 0))
theorem St8.but {g q : Nat} {w0 w w' : World} {s s' : PS} {cs : Array Value} (h : St8 g q w0 w s cs) (hg : g < q) (hp : PAt w' g s') (hb : But g w w') : St8 g q w0 w' s' cs :=
  ⟨hp, h.bt.trans (Bt.of_but hb), (hb.block q (heap_lt h.cell) (by omega)).trans h.cell⟩
theorem St8.below {g q : Nat} {w0 w w' : World} {s : PS} {cs : Array Value} (h : St8 g q w0 w s cs) (hg : g < q) (hb : Below w.heap.size w w') : St8 g q w0 w' s cs := h.but hg (h.at_.keep hb) (But.of_below hb)
theorem St8.set {g q : Nat} {w0 w : World} {s : PS} {cs : Array Value} (h : St8 g q w0 w s cs) (hg : g < q) (j : Nat) (u : Value) : St8 g q w0 (w.setCell ⟨q, j, none⟩ u) s (cs.setIfInBounds j u) :=
  ⟨h.at_.up ((Below.refl _ _).setCell (by simp; omega) _), h.bt.trans (Bt.set g q w j u), heap_set h.cell j u⟩
/-- What reading an expression comes to. -/
def ExP (g lo : Nat) (w : World) (x : Part) (s2 : PS) (e : Ending) (w' : World) : Prop := ∃ pk pa pt po pn pz pkids PK pc pd, e = .returned (.agg #[.int .i64 pk, .int .i64 pa, .int .i64 pt, .int .i64 po, .int .i64 pn, .string pz, .slice PK (List.length pkids) (List.length pkids + pc), .int .i64 pd]) ∧ x = (.mk pk pa pt po pn pz pkids, pd) ∧ RdEs w' (From lo w') PK 0 pkids ∧ PAt w' g s2 ∧ But g w w'
theorem WholePost.exp {g lo : Nat} {S : Nat → Prop} {w w' : World} {x : Part} {s2 : PS} {e : Ending} (h : WholePost g S w (x, s2) e w') (hlo : lo ≤ w.heap.size) (hS : ∀ b, S b → From lo w b) : ExP g lo w x s2 e w' := by
  obtain ⟨v, rfl, ⟨k, a, t, o, n, z, kids, K, c, d, hp, rfl, hk⟩, hat, hb⟩ := h
  refine ⟨k, a, t, o, n, z, kids, K, c, d, rfl, hp, RdEs.more (fun b hb' => ?_) _ _ _ hk, hat, hb⟩
  rcases hb' with h1 | ⟨h1, h2⟩
  · exact (hS b h1).up hb.size
  · exact ⟨by omega, h2⟩
theorem expr_c (k lo : Nat) (g : Nat) (s : PS) (x : Part) (s2 : PS) (w : World) (hx : exprK k s = some (x, s2)) (hok : Ok k s) (h : PAt w g s) (hlo : lo ≤ w.heap.size) :
    Calls Tryz.prog 88 #[.pointer (some ⟨g, 0, none⟩)] w (ExP g lo w x s2) :=
  (ex_c k g s (x, s2) w hx hok h).mono fun _ _ hp => hp.exp hlo (fun b hb => absurd hb (by unfold NoB; simp))
/-- What a row of expressions comes to. -/
def ExsP (lo : Nat) (w : World) (l : List Ex) (e : Ending) (w' : World) : Prop := ∃ K c, e = .returned (.slice K l.length c) ∧ RdEs w' (From lo w') K 0 l ∧ Below w.heap.size w w'
theorem exprs_one (lo : Nat) (w : World) {k a t o n : Int} {s : ByteArray} {kids : List Ex} {K : Option Addr} {c : Nat} {d : Int} (hlo : lo ≤ w.heap.size) (hk : RdEs w (From lo w) K 0 kids) :
    Calls Tryz.prog 87 #[.slice (some ⟨w.heap.size, 0, none⟩) 1 1] (w.alloc (.cells #[.int .i64 k, .int .i64 a, .int .i64 t, .int .i64 o, .int .i64 n, .string s, .slice K kids.length (kids.length + c), .int .i64 d] 124)) (ExsP lo w [.mk k a t o n s kids]) := by
  obtain ⟨W, hW, hbW, hzW, hbP⟩ := one_al w #[.int .i64 k, .int .i64 a, .int .i64 t, .int .i64 o, .int .i64 n, .string s, .slice K kids.length (kids.length + c), .int .i64 d] 124
  have hrow := RdPs.one (fun b hb => hb.2) hk hbW hbP
  rw [← hW]
  refine (exprs_any _ [((.mk k a t o n s kids, d) : Part)] _ 1 W (fun b hb => by rcases hb with h1 | h1; have := h1.2; omega; omega) (by simp) hrow).mono ?_
  rintro e w' ⟨K', c', he, hr, hb⟩
  refine ⟨K', 1 + c', he, RdEs.more (fun b hb' => ?_) _ _ _ hr, hbW.trans (hb.mono (by omega))⟩
  have hz := hb.size
  rcases hb' with (h1 | h1) | ⟨h1, h2⟩
  · exact h1.up (by omega)
  · exact ⟨by omega, by omega⟩
  · exact ⟨by omega, h2⟩
theorem exprs_two (lo : Nat) (w : World) {k a t o n : Int} {s : ByteArray} {kids : List Ex} {K : Option Addr} {c : Nat} {d : Int} {k' a' t' o' n' : Int} {s' : ByteArray} {kids' : List Ex} {K' : Option Addr} {c' : Nat} {d' : Int} (hlo : lo ≤ w.heap.size) (hk : RdEs w (From lo w) K 0 kids) (hk' : RdEs w (From lo w) K' 0 kids') :
    Calls Tryz.prog 87 #[.slice (some ⟨w.heap.size, 0, none⟩) 2 2] (w.alloc (.cells #[.int .i64 k, .int .i64 a, .int .i64 t, .int .i64 o, .int .i64 n, .string s, .slice K kids.length (kids.length + c), .int .i64 d, .int .i64 k', .int .i64 a', .int .i64 t', .int .i64 o', .int .i64 n', .string s', .slice K' kids'.length (kids'.length + c'), .int .i64 d'] 124)) (ExsP lo w [.mk k a t o n s kids, .mk k' a' t' o' n' s' kids']) := by
  obtain ⟨W, hW, hbW, hzW, hbP⟩ := one_al w #[.int .i64 k, .int .i64 a, .int .i64 t, .int .i64 o, .int .i64 n, .string s, .slice K kids.length (kids.length + c), .int .i64 d, .int .i64 k', .int .i64 a', .int .i64 t', .int .i64 o', .int .i64 n', .string s', .slice K' kids'.length (kids'.length + c'), .int .i64 d'] 124
  have hrow := RdPs.two (fun b hb => hb.2) hk hk' hbW hbP
  rw [← hW]
  refine (exprs_any _ [((.mk k a t o n s kids, d) : Part), (.mk k' a' t' o' n' s' kids', d')] _ 2 W (fun b hb => by rcases hb with h1 | h1; have := h1.2; omega; omega) (by simp) hrow).mono ?_
  rintro e w' ⟨K1, c1, he, hr, hb⟩
  refine ⟨K1, 2 + c1, he, RdEs.more (fun b hb' => ?_) _ _ _ hr, hbW.trans (hb.mono (by omega))⟩
  have hz := hb.size
  rcases hb' with (h1 | h1) | ⟨h1, h2⟩
  · exact h1.up (by omega)
  · exact ⟨by omega, by omega⟩
  · exact ⟨by omega, h2⟩
/-- What reading a block comes to. -/
def BlP (g lo : Nat) (w : World) (r : List St × PS) (e : Ending) (w' : World) : Prop := ∃ A c, e = .returned (.slice A r.1.length c) ∧ RdSs w' (From lo w') A 0 r.1 ∧ PAt w' g r.2 ∧ But g w w'
theorem BlP.lo {g lo : Nat} {w w' : World} {r : List St × PS} {e : Ending} (h : BlP g w.heap.size w r e w') (hlo : lo ≤ w.heap.size) : BlP g lo w r e w' := by
  obtain ⟨A, c, he, hr, hp, hb⟩ := h
  exact ⟨A, c, he, RdSs.more (fun _ hS => hS.lo hlo) _ _ _ hr, hp, hb⟩
def BlC (k : Nat) : Prop := ∀ g lo s r w, blockK k s = some r → Ok k s → PAt w g s → lo ≤ w.heap.size → Calls Tryz.prog 45 #[.pointer (some ⟨g, 0, none⟩)] w (BlP g lo w r)
def ElC (k : Nat) : Prop := ∀ g lo s r w, elseK k s = some r → Ok k s → PAt w g s → lo ≤ w.heap.size → Calls Tryz.prog 89 #[.pointer (some ⟨g, 0, none⟩)] w (BlP g lo w r)
/-- What reading a statement into its place comes to. -/
def SmP (g q : Nat) (w : World) (r : St × PS) (e : Ending) (w' : World) : Prop := e = .returned (.tuple #[]) ∧ PAt w' g r.2 ∧ Bt g q w w' ∧ StAt w' (From w.heap.size w') q r.1
def SmC (K : PS → Int → Option (St × PS)) (k : Nat) (F : FuncId) : Prop := ∀ g q a s r w, K s a = some r → Ok k s → PAt w g s → g < q → w.heap[q]? = some (.cells (st0 a) 77 (0, 0)) → Calls Tryz.prog F #[.pointer (some ⟨g, 0, none⟩), .pointer (some ⟨q, 0, none⟩)] w (SmP g q w r)
def ChC (k : Nat) : Prop := SmC (fun s a => choiceK k a s) k 73
def WhC (k : Nat) : Prop := SmC (fun s a => whileK k a s) k 74
def CoC (k : Nat) : Prop := SmC (fun s a => countK k a s) k 75
def SiC (k : Nat) : Prop := SmC (fun s a => simpleK k a s) k 76
/-- What reading a statement comes to. -/
def StP (g lo : Nat) (w : World) (r : St × PS) (e : Ending) (w' : World) : Prop := ∃ k a n z p kids body els K kc B bc E ec, e = .returned (.agg (stC k a n z p K (List.length kids) kc B (List.length body) bc E (List.length els) ec)) ∧ r.1 = .mk k a n z p kids body els ∧ RdEs w' (From lo w') K 0 kids ∧ RdSs w' (From lo w') B 0 body ∧ RdSs w' (From lo w') E 0 els ∧ PAt w' g r.2 ∧ But g w w'
theorem StP.lo {g lo : Nat} {w w' : World} {r : St × PS} {e : Ending} (h : StP g w.heap.size w r e w') (hlo : lo ≤ w.heap.size) : StP g lo w r e w' := by
  obtain ⟨k, a, n, z, p, kids, body, els, K, kc, B, bc, E, ec, he, hx, h1, h2, h3, hp, hb⟩ := h
  exact ⟨k, a, n, z, p, kids, body, els, K, kc, B, bc, E, ec, he, hx, RdEs.more (fun _ hS => hS.lo hlo) _ _ _ h1, RdSs.more (fun _ hS => hS.lo hlo) _ _ _ h2, RdSs.more (fun _ hS => hS.lo hlo) _ _ _ h3, hp, hb⟩
def StC (k : Nat) : Prop := ∀ g lo s r w, stmtK k s = some r → Ok k s → PAt w g s → lo ≤ w.heap.size → Calls Tryz.prog 62 #[.pointer (some ⟨g, 0, none⟩)] w (StP g lo w r)
/-- A row of statements of the call's own; what lies behind them is apart from the row. -/
def SrC (w : World) (base : Nat) (v : Value) (xs : List Value) (l : List St) : Prop :=
  w.ownsRow base 77 8 v l.length xs ∧ ∀ i p, l[i]? = some p → RdS w (fun b => base ≤ b ∧ b < w.heap.size ∧ some b ≠ v.ownBlock) (fun j => xs[i * 8 + j]?) p
theorem SrC.nil (w : World) (base : Nat) : SrC w base (.slice none 0 0) [] [] := ⟨World.ownsRow_nil _ _ _ _, fun i p h => by simp at h⟩
theorem SrC.but {w w' : World} {g base : Nat} {v : Value} {xs : List Value} {l : List St} (h : SrC w base v xs l) (hb : But g w w') (hg : g < base) : SrC w' base v xs l :=
  ⟨own_but h.1 hb hg, fun i p hp => RdS.more (fun _ hS => ⟨hS.1, Nat.lt_of_lt_of_le hS.2.1 hb.size, hS.2.2⟩) _ _ (RdS.keep (w' := w') (fun q hq => hb.cell hq.2.1 (by have := hq.1; omega)) _ _ (h.2 i p hp))⟩
theorem SrC.snoc {w1 w2 : World} {base lo : Nat} {v v' : Value} {xs : List Value} {l : List St} {k a n : Int} {z : ByteArray} {p : Int} {kids : List Ex} {body els : List St} {K : Option Addr} {kc : Nat} {B : Option Addr} {bc : Nat} {E : Option Addr} {ec : Nat} (h : SrC w1 base v xs l)
    (hk : RdEs w1 (From lo w1) K 0 kids) (hB : RdSs w1 (From lo w1) B 0 body) (hE : RdSs w1 (From lo w1) E 0 els)
    (hlo : base ≤ lo) (hv : ∀ b, v.ownBlock = some b → b < lo) (hg : w1.grownBy w2 v.ownBlock) (hat : v'.ownBlock = v.ownBlock ∨ ∃ b, v'.ownBlock = some b ∧ w1.heap.size ≤ b)
    (ho : w2.ownsRow base 77 8 v' (l.length + 1) (xs ++ (stC k a n z p K kids.length kc B body.length bc E els.length ec).toList)) :
    SrC w2 base v' (xs ++ (stC k a n z p K kids.length kc B body.length bc E els.length ec).toList) (l ++ [.mk k a n z p kids body els]) := by
  refine ⟨by rw [List.length_append, List.length_singleton]; exact ho, fun i u hu => ?_⟩
  have hx : xs.length = l.length * 8 := h.1.1
  have hcell : ∀ q : Addr, q.block < w1.heap.size → some q.block ≠ v.ownBlock → w2.cell? q = w1.cell? q := fun q h1 h2 => hg.cell_far q h1 h2
  have hne : ∀ b, b < w1.heap.size → some b ≠ v.ownBlock → some b ≠ v'.ownBlock := fun b h1 h2 => by
    rcases hat with e | ⟨b', e, hge⟩
    · rw [e]; exact h2
    · rw [e]; intro e2; injection e2 with e2; omega
  by_cases hi : i < l.length
  · rw [List.getElem?_append_left hi] at hu
    have h1 := RdS.keep (w' := w2) (fun q hq => hcell q hq.2.1 hq.2.2) _ _ (h.2 i u hu)
    have h2 := RdS.more (S' := fun b => base ≤ b ∧ b < w2.heap.size ∧ some b ≠ v'.ownBlock) (fun b hS => ⟨hS.1, Nat.lt_of_lt_of_le hS.2.1 hg.size, hne b hS.2.1 hS.2.2⟩) _ _ h1
    exact h2.cells (fun j hj => by rw [List.getElem?_append_left (by omega)])
  · have hl : i < (l ++ [St.mk k a n z p kids body els]).length := (List.getElem?_eq_some_iff.mp hu).1
    rw [List.length_append, List.length_singleton] at hl
    obtain rfl : i = l.length := by omega
    have hpe : u = .mk k a n z p kids body els := by simpa using hu.symm
    subst hpe
    have hvb : ∀ b, lo ≤ b → some b ≠ v.ownBlock := fun b h1 h2 => by have := hv b h2.symm; omega
    have hm : ∀ b, From lo w1 b → base ≤ b ∧ b < w2.heap.size ∧ some b ≠ v'.ownBlock := fun b hS => ⟨Nat.le_trans hlo hS.1, Nat.lt_of_lt_of_le hS.2 hg.size, hne b hS.2 (hvb b hS.1)⟩
    have hk2 := RdEs.more hm _ _ _ (RdEs.keep (w' := w2) (fun q hq => hcell q hq.2 (hvb _ hq.1)) _ _ _ hk)
    have hB2 := RdSs.more hm _ _ _ (RdSs.keep (w' := w2) (fun q hq => hcell q hq.2 (hvb _ hq.1)) _ _ _ hB)
    have hE2 := RdSs.more hm _ _ _ (RdSs.keep (w' := w2) (fun q hq => hcell q hq.2 (hvb _ hq.1)) _ _ _ hE)
    have h3 : RdS w2 (fun b => base ≤ b ∧ b < w2.heap.size ∧ some b ≠ v'.ownBlock) (fun j => (stC k a n z p K kids.length kc B body.length bc E els.length ec).toList[j]?) (.mk k a n z p kids body els) := by
      unfold RdS
      exact ⟨rfl, rfl, rfl, rfl, rfl, ⟨K, kc, rfl, hk2⟩, ⟨B, bc, rfl, hB2⟩, E, ec, rfl, hE2⟩
    exact h3.cells (fun j hj => by rw [List.getElem?_append_right (by omega), hx, Nat.add_sub_cancel_left])
/-- What it is for whoever reads it. -/
theorem SrC.reads {w : World} {base : Nat} {v : Value} {xs : List Value} {l : List St} (h : SrC w base v xs l) : ∃ A c, v = .slice A l.length c ∧ RdSs w (From base w) A 0 l := by
  rcases h.1.2 with ⟨hv, h0⟩ | ⟨g, c, cur, hv, _⟩
  · have hl : l = [] := List.length_eq_zero_iff.mp h0
    subst hl
    exact ⟨none, 0, hv, by unfold RdSs; trivial⟩
  · subst hv
    have hlt := h.1.lt g rfl
    refine ⟨_, c, rfl, RdSs.of_all (fun k e he => ⟨g, 0, rfl, hlt, ?_⟩)⟩
    have h1 := RdS.more (S' := From base w) (fun b hS => ⟨hS.1, hS.2.1⟩) _ _ (h.2 k e he)
    refine h1.cells (fun j hj => ?_)
    have hk : k < l.length := (List.getElem?_eq_some_iff.mp he).1
    rw [show 0 + (0 + k) * 8 + j = k * 8 + j by omega]
    exact h.1.cellAt (k * 8 + j) (by omega)
/-- A row of one statement that was made for it. -/
theorem RdSs.one {w W : World} {lo : Nat} {k a n : Int} {z : ByteArray} {p : Int} {kids : List Ex} {body els : List St} {K : Option Addr} {kc : Nat} {B : Option Addr} {bc : Nat} {E : Option Addr} {ec : Nat} (hlo : lo ≤ w.heap.size)
    (hk : RdEs w (From lo w) K 0 kids) (hB : RdSs w (From lo w) B 0 body) (hE : RdSs w (From lo w) E 0 els) (hW : Below w.heap.size w W) (hb : W.heap[w.heap.size]? = some (.cells (stC k a n z p K kids.length kc B body.length bc E els.length ec) 77 (0, 0))) :
    RdSs W (From lo W) (some ⟨w.heap.size, 0, none⟩) 0 [.mk k a n z p kids body els] := by
  have hz := heap_lt hb
  refine RdSs.of_all (fun i e he => ⟨w.heap.size, 0, rfl, ⟨hlo, hz⟩, ?_⟩)
  cases i with
  | zero =>
    simp at he
    subst he
    unfold RdS
    simp only [Nat.zero_mul, Nat.zero_add]
    have hm : ∀ b, From lo w b → From lo W b := fun b hS => hS.up hW.size
    exact ⟨Lib.cell_of_heap hb 0, Lib.cell_of_heap hb 1, Lib.cell_of_heap hb 2, Lib.cell_of_heap hb 3, Lib.cell_of_heap hb 4, ⟨K, kc, Lib.cell_of_heap hb 5, RdEs.more hm _ _ _ (RdEs.keep (w' := W) (fun q hq => hW.cell hq.2) _ _ _ hk)⟩, ⟨B, bc, Lib.cell_of_heap hb 6, RdSs.more hm _ _ _ (RdSs.keep (w' := W) (fun q hq => hW.cell hq.2) _ _ _ hB)⟩, E, ec, Lib.cell_of_heap hb 7, RdSs.more hm _ _ _ (RdSs.keep (w' := W) (fun q hq => hW.cell hq.2) _ _ _ hE)⟩
  | succ i => simp at he
theorem Ok.need {k : Nat} {s : PS} (h : Ok k s) (b : List UInt8) : Ok k (s.need1 b) := h.even (even_need1 s b)
end Go.Proofs.YtiadbeglhnocoaaGreatDoor
namespace Go.Proofs.YtiadbeglhnocoaaGreatDoor
set_option linter.unusedVariables false
set_option linter.unusedSimpArgs false
open Go.RowKit

theorem enter_lo {lo g : Nat} {w : World} (h : lo ≤ w.heap.size) (hg : g < lo) : g < w.heap.size := by omega
set_option maxRecDepth 100000 in
set_option maxHeartbeats 4000000 in
theorem while_any (k : Nat) (HB : BlC k) : WhC (k + 1) := by
  intro g q a s r w hr hok h hgq hq
  have hgl := h.lt
  have hql := heap_lt hq
  have H0 : Hid (St8 g q w w s #[.int .i64 0, .int .i64 a, .int .i64 0, .string ⟨#[]⟩, .int .i64 0, .slice none 0 0, .slice none 0 0, .slice none 0 0]) := Lib.hid ⟨h, Bt.refl _ _ _, hq⟩
  simp only [whileK] at hr
  cases hx : exprK k (s.need1 ([119, 104, 105, 108, 101] : List UInt8)) with
  | none => rw [hx] at hr; cases hr
  | some y =>
    rw [hx] at hr
    obtain ⟨x, s2⟩ := y
    simp only at hr
    cases hb3 : blockK k s2 with
    | none => rw [hb3] at hr; cases hr
    | some y =>
      rw [hb3] at hr
      obtain ⟨b, s3⟩ := y
      simp only at hr
      simp only [Option.some.injEq] at hr
      subst hr
      have hok1 : Ok k (s.need1 ([119, 104, 105, 108, 101] : List UInt8)) := (hok.need _).less (Nat.le_succ k)
      have hok2 : Ok k s2 := hok1.even (es_expr hx)
      have Hx := Lib.hid hx
      have Hb3 := Lib.hid hb3
      clear hx hb3 hq h
      obtain ⟨q0, q1, q2, q3, q4, q5, q6, q7, qf⟩ := cells8 H0.out.cell
      go_enter Tryz.func74, Tryz.ntmps74
      go_upto_region 1 with fail
      obtain ⟨w1, hw⟩ : ∃ W, W = w.setCell ⟨q, 0, none⟩ (.int .i64 5) := ⟨_, rfl⟩
      rw [← hw]
      have H1 : Hid (St8 g q w w1 (s) #[.int .i64 5, .int .i64 a, .int .i64 0, .string ⟨#[]⟩, .int .i64 0, .slice none 0 0, .slice none 0 0, .slice none 0 0]) := by
        rw [hw]
        have := H0.out.set hgq 0 (.int .i64 5)
        simp only [List.setIfInBounds_toArray, List.set_cons_zero, List.set_cons_succ] at this
        exact Lib.hid this
      have hbt : Bt g q w w1 := by rw [hw]; exact Bt.set g q w 0 _
      clear hw hbt q0 q1 q2 q3 q4 q5 q6 q7 qf
      go_upto_region 2 with (go_at_call 38; refine (need1_at g (s) ([119, 104, 105, 108, 101] : List UInt8) w1 H1.out.at_).mono ?_; rintro e w2 ⟨rfl, hp, hb⟩; have H2 := Lib.hid (H1.out.but hgq hp hb); clear hp hb)
      go_upto_region 3 with (first
        | (go_at_call 88; refine (expr_c k w.heap.size g ((s).need1 ([119, 104, 105, 108, 101] : List UInt8)) x s2 w2 Hx.out hok1 H2.out.at_ (H2.out.bt.size)).mono ?_; rintro e w3 ⟨pk, pa, pt, po, pn, pz, pkids, PK, pc, pd, rfl, hxe, hk, hp, hb⟩; have H3 := Lib.hid (H2.out.but hgq hp hb); have PK_3 := Lib.hid hk; clear hk; have HX := Lib.hid hxe; clear hxe; clear hp hb)
        | (go_at_call 87; refine (exprs_one w.heap.size w3 (H3.out.bt.size) PK_3.out).mono ?_; rintro e w4 ⟨K, Kc, rfl, hk, hb⟩; have H4 := Lib.hid (H3.out.below hgq hb); have FK_4 := Lib.hid hk; clear hk hb; obtain ⟨q0, q1, q2, q3, q4, q5, q6, q7, qf⟩ := cells8 H4.out.cell))
      obtain ⟨w5, hw⟩ : ∃ W, W = w4.setCell ⟨q, 5, none⟩ (.slice K 1 Kc) := ⟨_, rfl⟩
      rw [← hw]
      have H5 : Hid (St8 g q w w5 (s2) #[.int .i64 5, .int .i64 a, .int .i64 0, .string ⟨#[]⟩, .int .i64 0, .slice K 1 Kc, .slice none 0 0, .slice none 0 0]) := by
        rw [hw]
        have := H4.out.set hgq 5 (.slice K 1 Kc)
        simp only [List.setIfInBounds_toArray, List.set_cons_zero, List.set_cons_succ] at this
        exact Lib.hid this
      have hbt : Bt g q w4 w5 := by rw [hw]; exact Bt.set g q w4 5 _
      have FK_5 := Lib.hid (RdEs.bt FK_4.out (hbt) hgl hql)
      clear FK_4
      clear hw hbt q0 q1 q2 q3 q4 q5 q6 q7 qf
      go_wp2_with (go_at_call 45; refine (HB g w.heap.size s2 (b, s3) w5 Hb3.out hok2 H5.out.at_ (H5.out.bt.size)).mono ?_; rintro e w6 ⟨B, bc, rfl, hB, hp, hb⟩; have H6 := Lib.hid (H5.out.but hgq hp hb); have FK_6 := Lib.hid (RdEs.bt FK_5.out (Bt.of_but (g := g) (q := q) hb) hgl hql); clear FK_5; have FB_6 := Lib.hid hB; clear hB; clear hp hb; obtain ⟨q0, q1, q2, q3, q4, q5, q6, q7, qf⟩ := cells8 H6.out.cell)
      go_end0
      have HZ := H6.out.set hgq 6 (.slice B b.length bc)
      simp only [List.setIfInBounds_toArray, List.set_cons_zero, List.set_cons_succ] at HZ
      have hxe := HX.out
      subst hxe
      exact ⟨rfl, HZ.at_, HZ.bt, 5, a, 0, ⟨#[]⟩, 0, _, _, [], K, Kc, B, bc, none, 0, rfl, HZ.cell, RdEs.bt FK_6.out (Bt.set g q _ 6 _) hgl hql, RdSs.bt FB_6.out (Bt.set g q _ 6 _) hgl hql, by unfold RdSs; trivial⟩
set_option maxRecDepth 100000 in
set_option maxHeartbeats 4000000 in
theorem choice_any (k : Nat) (HB : BlC k) (HE : ElC k) : ChC (k + 1) := by
  intro g q a s r w hr hok h hgq hq
  have hgl := h.lt
  have hql := heap_lt hq
  have H0 : Hid (St8 g q w w s #[.int .i64 0, .int .i64 a, .int .i64 0, .string ⟨#[]⟩, .int .i64 0, .slice none 0 0, .slice none 0 0, .slice none 0 0]) := Lib.hid ⟨h, Bt.refl _ _ _, hq⟩
  simp only [choiceK] at hr
  cases hx : exprK k (s.need1 ([105, 102] : List UInt8)) with
  | none => rw [hx] at hr; cases hr
  | some y =>
    rw [hx] at hr
    obtain ⟨x, s2⟩ := y
    simp only at hr
    cases hb3 : blockK k s2 with
    | none => rw [hb3] at hr; cases hr
    | some y =>
      rw [hb3] at hr
      obtain ⟨b, s3⟩ := y
      simp only at hr
      have hok1 : Ok k (s.need1 ([105, 102] : List UInt8)) := (hok.need _).less (Nat.le_succ k)
      have hok2 : Ok k s2 := hok1.even (es_expr hx)
      have hok3 : Ok k s3 := hok2.even ((pureS_all k).block _ _ hb3)
      have Hx := Lib.hid hx
      have Hb3 := Lib.hid hb3
      have hT := fun w2 (hp2 : PAt w2 g s3) => take_any g s3 ([101, 108, 115, 101] : List UInt8) w2 hp2
      clear hx hb3 hq h
      obtain ⟨q0, q1, q2, q3, q4, q5, q6, q7, qf⟩ := cells8 H0.out.cell
      by_cases hel : s3.isB ([101, 108, 115, 101] : List UInt8) = true
      · rw [if_pos hel] at hr
        cases he4 : elseK k s3.next with
        | none => rw [he4] at hr; cases hr
        | some y =>
          rw [he4] at hr
          obtain ⟨els, s4⟩ := y
          simp only [Option.some.injEq] at hr
          subst hr
          rw [hel] at hT
          have htk : s3.takeP ([101, 108, 115, 101] : List UInt8) = s3.next := by unfold PS.takeP; rw [if_pos hel]
          rw [htk] at hT
          have hok4 : Ok k s3.next := hok3.even (even_next s3)
          have He4 := Lib.hid he4
          clear hel htk he4 hok3
          go_enter Tryz.func73, Tryz.ntmps73
          go_upto_region 1 with fail
          obtain ⟨w1, hw⟩ : ∃ W, W = w.setCell ⟨q, 0, none⟩ (.int .i64 4) := ⟨_, rfl⟩
          rw [← hw]
          have H1 : Hid (St8 g q w w1 (s) #[.int .i64 4, .int .i64 a, .int .i64 0, .string ⟨#[]⟩, .int .i64 0, .slice none 0 0, .slice none 0 0, .slice none 0 0]) := by
            rw [hw]
            have := H0.out.set hgq 0 (.int .i64 4)
            simp only [List.setIfInBounds_toArray, List.set_cons_zero, List.set_cons_succ] at this
            exact Lib.hid this
          have hbt : Bt g q w w1 := by rw [hw]; exact Bt.set g q w 0 _
          clear hw hbt q0 q1 q2 q3 q4 q5 q6 q7 qf
          go_upto_region 2 with (go_at_call 38; refine (need1_at g (s) ([105, 102] : List UInt8) w1 H1.out.at_).mono ?_; rintro e w2 ⟨rfl, hp, hb⟩; have H2 := Lib.hid (H1.out.but hgq hp hb); clear hp hb)
          go_upto_region 3 with (first
            | (go_at_call 88; refine (expr_c k w.heap.size g ((s).need1 ([105, 102] : List UInt8)) x s2 w2 Hx.out hok1 H2.out.at_ (H2.out.bt.size)).mono ?_; rintro e w3 ⟨pk, pa, pt, po, pn, pz, pkids, PK, pc, pd, rfl, hxe, hk, hp, hb⟩; have H3 := Lib.hid (H2.out.but hgq hp hb); have PK_3 := Lib.hid hk; clear hk; have HX := Lib.hid hxe; clear hxe; clear hp hb)
            | (go_at_call 87; refine (exprs_one w.heap.size w3 (H3.out.bt.size) PK_3.out).mono ?_; rintro e w4 ⟨K, Kc, rfl, hk, hb⟩; have H4 := Lib.hid (H3.out.below hgq hb); have FK_4 := Lib.hid hk; clear hk hb; obtain ⟨q0, q1, q2, q3, q4, q5, q6, q7, qf⟩ := cells8 H4.out.cell))
          obtain ⟨w5, hw⟩ : ∃ W, W = w4.setCell ⟨q, 5, none⟩ (.slice K 1 Kc) := ⟨_, rfl⟩
          rw [← hw]
          have H5 : Hid (St8 g q w w5 (s2) #[.int .i64 4, .int .i64 a, .int .i64 0, .string ⟨#[]⟩, .int .i64 0, .slice K 1 Kc, .slice none 0 0, .slice none 0 0]) := by
            rw [hw]
            have := H4.out.set hgq 5 (.slice K 1 Kc)
            simp only [List.setIfInBounds_toArray, List.set_cons_zero, List.set_cons_succ] at this
            exact Lib.hid this
          have hbt : Bt g q w4 w5 := by rw [hw]; exact Bt.set g q w4 5 _
          have FK_5 := Lib.hid (RdEs.bt FK_4.out (hbt) hgl hql)
          clear FK_4
          clear hw hbt q0 q1 q2 q3 q4 q5 q6 q7 qf
          go_upto_region 4 with (go_at_call 45; refine (HB g w.heap.size s2 (b, s3) w5 Hb3.out hok2 H5.out.at_ (H5.out.bt.size)).mono ?_; rintro e w6 ⟨B, bc, rfl, hB, hp, hb⟩; have H6 := Lib.hid (H5.out.but hgq hp hb); have FK_6 := Lib.hid (RdEs.bt FK_5.out (Bt.of_but (g := g) (q := q) hb) hgl hql); clear FK_5; have FB_6 := Lib.hid hB; clear hB; clear hp hb; obtain ⟨q0, q1, q2, q3, q4, q5, q6, q7, qf⟩ := cells8 H6.out.cell)
          obtain ⟨w7, hw⟩ : ∃ W, W = w6.setCell ⟨q, 6, none⟩ (.slice B b.length bc) := ⟨_, rfl⟩
          rw [← hw]
          have H7 : Hid (St8 g q w w7 (s3) #[.int .i64 4, .int .i64 a, .int .i64 0, .string ⟨#[]⟩, .int .i64 0, .slice K 1 Kc, .slice B b.length bc, .slice none 0 0]) := by
            rw [hw]
            have := H6.out.set hgq 6 (.slice B b.length bc)
            simp only [List.setIfInBounds_toArray, List.set_cons_zero, List.set_cons_succ] at this
            exact Lib.hid this
          have hbt : Bt g q w6 w7 := by rw [hw]; exact Bt.set g q w6 6 _
          have FK_7 := Lib.hid (RdEs.bt FK_6.out (hbt) hgl hql)
          clear FK_6
          have FB_7 := Lib.hid (RdSs.bt FB_6.out (hbt) hgl hql)
          clear FB_6
          clear hw hbt q0 q1 q2 q3 q4 q5 q6 q7 qf
          go_wp2_with (first
            | (go_at_call 43; refine (hT w7 H7.out.at_).mono ?_; rintro e w8 ⟨rfl, hp, hb⟩; have H8 := Lib.hid (H7.out.but hgq hp hb); have FK_8 := Lib.hid (RdEs.bt FK_7.out (Bt.of_but (g := g) (q := q) hb) hgl hql); clear FK_7; have FB_8 := Lib.hid (RdSs.bt FB_7.out (Bt.of_but (g := g) (q := q) hb) hgl hql); clear FB_7; clear hp hb)
            | (go_at_call 89; refine (HE g w.heap.size s3.next (els, s4) w8 He4.out hok4 H8.out.at_ (H8.out.bt.size)).mono ?_; rintro e w9 ⟨E, ec, rfl, hEl, hp, hb⟩; have H9 := Lib.hid (H8.out.but hgq hp hb); have FK_9 := Lib.hid (RdEs.bt FK_8.out (Bt.of_but (g := g) (q := q) hb) hgl hql); clear FK_8; have FB_9 := Lib.hid (RdSs.bt FB_8.out (Bt.of_but (g := g) (q := q) hb) hgl hql); clear FB_8; have FE_9 := Lib.hid hEl; clear hEl; clear hp hb; obtain ⟨q0, q1, q2, q3, q4, q5, q6, q7, qf⟩ := cells8 H9.out.cell))
          go_end0
          have HZ := H9.out.set hgq 7 (.slice E els.length ec)
          simp only [List.setIfInBounds_toArray, List.set_cons_zero, List.set_cons_succ] at HZ
          have hxe := HX.out
          subst hxe
          exact ⟨rfl, HZ.at_, HZ.bt, 4, a, 0, ⟨#[]⟩, 0, _, _, _, K, Kc, B, bc, E, ec, rfl, HZ.cell, RdEs.bt FK_9.out (Bt.set g q _ 7 _) hgl hql, RdSs.bt FB_9.out (Bt.set g q _ 7 _) hgl hql, RdSs.bt FE_9.out (Bt.set g q _ 7 _) hgl hql⟩
      · rw [if_neg hel] at hr
        simp only [Option.some.injEq] at hr
        subst hr
        have helf : s3.isB ([101, 108, 115, 101] : List UInt8) = false := by simpa using hel
        rw [helf] at hT
        have htk : s3.takeP ([101, 108, 115, 101] : List UInt8) = s3 := by unfold PS.takeP; rw [if_neg (by simp [helf])]
        rw [htk] at hT
        clear hel helf htk hok3
        go_enter Tryz.func73, Tryz.ntmps73
        go_upto_region 1 with fail
        obtain ⟨w1, hw⟩ : ∃ W, W = w.setCell ⟨q, 0, none⟩ (.int .i64 4) := ⟨_, rfl⟩
        rw [← hw]
        have H1 : Hid (St8 g q w w1 (s) #[.int .i64 4, .int .i64 a, .int .i64 0, .string ⟨#[]⟩, .int .i64 0, .slice none 0 0, .slice none 0 0, .slice none 0 0]) := by
          rw [hw]
          have := H0.out.set hgq 0 (.int .i64 4)
          simp only [List.setIfInBounds_toArray, List.set_cons_zero, List.set_cons_succ] at this
          exact Lib.hid this
        have hbt : Bt g q w w1 := by rw [hw]; exact Bt.set g q w 0 _
        clear hw hbt q0 q1 q2 q3 q4 q5 q6 q7 qf
        go_upto_region 2 with (go_at_call 38; refine (need1_at g (s) ([105, 102] : List UInt8) w1 H1.out.at_).mono ?_; rintro e w2 ⟨rfl, hp, hb⟩; have H2 := Lib.hid (H1.out.but hgq hp hb); clear hp hb)
        go_upto_region 3 with (first
          | (go_at_call 88; refine (expr_c k w.heap.size g ((s).need1 ([105, 102] : List UInt8)) x s2 w2 Hx.out hok1 H2.out.at_ (H2.out.bt.size)).mono ?_; rintro e w3 ⟨pk, pa, pt, po, pn, pz, pkids, PK, pc, pd, rfl, hxe, hk, hp, hb⟩; have H3 := Lib.hid (H2.out.but hgq hp hb); have PK_3 := Lib.hid hk; clear hk; have HX := Lib.hid hxe; clear hxe; clear hp hb)
          | (go_at_call 87; refine (exprs_one w.heap.size w3 (H3.out.bt.size) PK_3.out).mono ?_; rintro e w4 ⟨K, Kc, rfl, hk, hb⟩; have H4 := Lib.hid (H3.out.below hgq hb); have FK_4 := Lib.hid hk; clear hk hb; obtain ⟨q0, q1, q2, q3, q4, q5, q6, q7, qf⟩ := cells8 H4.out.cell))
        obtain ⟨w5, hw⟩ : ∃ W, W = w4.setCell ⟨q, 5, none⟩ (.slice K 1 Kc) := ⟨_, rfl⟩
        rw [← hw]
        have H5 : Hid (St8 g q w w5 (s2) #[.int .i64 4, .int .i64 a, .int .i64 0, .string ⟨#[]⟩, .int .i64 0, .slice K 1 Kc, .slice none 0 0, .slice none 0 0]) := by
          rw [hw]
          have := H4.out.set hgq 5 (.slice K 1 Kc)
          simp only [List.setIfInBounds_toArray, List.set_cons_zero, List.set_cons_succ] at this
          exact Lib.hid this
        have hbt : Bt g q w4 w5 := by rw [hw]; exact Bt.set g q w4 5 _
        have FK_5 := Lib.hid (RdEs.bt FK_4.out (hbt) hgl hql)
        clear FK_4
        clear hw hbt q0 q1 q2 q3 q4 q5 q6 q7 qf
        go_upto_region 4 with (go_at_call 45; refine (HB g w.heap.size s2 (b, s3) w5 Hb3.out hok2 H5.out.at_ (H5.out.bt.size)).mono ?_; rintro e w6 ⟨B, bc, rfl, hB, hp, hb⟩; have H6 := Lib.hid (H5.out.but hgq hp hb); have FK_6 := Lib.hid (RdEs.bt FK_5.out (Bt.of_but (g := g) (q := q) hb) hgl hql); clear FK_5; have FB_6 := Lib.hid hB; clear hB; clear hp hb; obtain ⟨q0, q1, q2, q3, q4, q5, q6, q7, qf⟩ := cells8 H6.out.cell)
        obtain ⟨w7, hw⟩ : ∃ W, W = w6.setCell ⟨q, 6, none⟩ (.slice B b.length bc) := ⟨_, rfl⟩
        rw [← hw]
        have H7 : Hid (St8 g q w w7 (s3) #[.int .i64 4, .int .i64 a, .int .i64 0, .string ⟨#[]⟩, .int .i64 0, .slice K 1 Kc, .slice B b.length bc, .slice none 0 0]) := by
          rw [hw]
          have := H6.out.set hgq 6 (.slice B b.length bc)
          simp only [List.setIfInBounds_toArray, List.set_cons_zero, List.set_cons_succ] at this
          exact Lib.hid this
        have hbt : Bt g q w6 w7 := by rw [hw]; exact Bt.set g q w6 6 _
        have FK_7 := Lib.hid (RdEs.bt FK_6.out (hbt) hgl hql)
        clear FK_6
        have FB_7 := Lib.hid (RdSs.bt FB_6.out (hbt) hgl hql)
        clear FB_6
        clear hw hbt q0 q1 q2 q3 q4 q5 q6 q7 qf
        go_wp2_with (go_at_call 43; refine (hT w7 H7.out.at_).mono ?_; rintro e w8 ⟨rfl, hp, hb⟩; have H8 := Lib.hid (H7.out.but hgq hp hb); have FK_8 := Lib.hid (RdEs.bt FK_7.out (Bt.of_but (g := g) (q := q) hb) hgl hql); clear FK_7; have FB_8 := Lib.hid (RdSs.bt FB_7.out (Bt.of_but (g := g) (q := q) hb) hgl hql); clear FB_7; clear hp hb)
        go_end0
        have hxe := HX.out
        subst hxe
        exact ⟨rfl, H8.out.at_, H8.out.bt, 4, a, 0, ⟨#[]⟩, 0, _, _, [], K, Kc, B, bc, none, 0, rfl, H8.out.cell, FK_8.out, FB_8.out, by unfold RdSs; trivial⟩
set_option maxRecDepth 100000 in
set_option maxHeartbeats 4000000 in
theorem otherwise_any (k : Nat) (HB : BlC k) (HS : StC k) : ElC (k + 1) := by
  intro g lo s r w hr hok h hlo
  have hgl := h.lt
  refine Calls.mono ?_ (fun _ _ h => BlP.lo h hlo)
  clear hlo lo
  obtain ⟨lo, hlo0⟩ : ∃ lo, lo = w.heap.size := ⟨_, rfl⟩
  rw [← hlo0]
  have hgo : g < lo := by omega
  have hlo : lo ≤ w.heap.size := by omega
  clear hlo0
  simp only [elseK] at hr
  have hI := is_any g s ([105, 102] : List UInt8) w h
  have H := Lib.hid h
  by_cases hb : s.isB ([105, 102] : List UInt8) = true
  · rw [if_pos hb] at hr
    rw [hb] at hI
    cases hx : stmtK k s.enter with
    | none => rw [hx] at hr; cases hr
    | some y =>
      rw [hx] at hr
      obtain ⟨x, s2⟩ := y
      simp only [Option.some.injEq] at hr
      subst hr
      have hoke : Ok k s.enter := hok.enter
      have hn2 : s2.nest = s.nest + 1 := by
        have := ((pureS_all k).stmt _ _ hx).1
        simp only at this
        rw [this, (enter_nest s).1]
      have hE := fun w' (hp : PAt w' g s) => enter_any g s w' hp (by unfold Ok at hok; omega) (by unfold Ok at hok; omega)
      obtain ⟨s1, hs1⟩ : ∃ s1, s1 = s.enter := ⟨_, rfl⟩
      rw [← hs1] at hE hx hoke
      have hX := fun w' (hp : PAt w' g s1) (hl : lo ≤ w'.heap.size) => HS g lo s1 (x, s2) w' hx hoke hp hl
      have Hn2 := Lib.hid hn2
      have Hok := Lib.hid hok
      clear hs1 hx hoke hok hn2 hb HS HB h
      go_enter_defers Tryz.func89, Tryz.ntmps89
      go_wp2_with (first
        | (go_at_call 61; refine hI.mono ?_; rintro r w1 ⟨rfl, hb⟩; have hE1 := hE w1 (H.out.keep hb); have Hb1 := Lib.hid (But.of_below (g := g) hb); clear hb hI hE)
        | (go_at_call 59; refine hE1.mono ?_; rintro r w2 ⟨rfl, hp, hb⟩; have Hb2 := Lib.hid (Hb1.out.trans hb); have hX2 := hX w2 hp (Nat.le_trans hlo Hb2.out.size); clear hp hb hE1 hX)
        | (go_at_call 62; refine hX2.mono ?_; rintro r w3 ⟨zk, za, zn, zz, zp, zkids, zbody, zels, K, kc, B, bc, E, ec, rfl, hxe, hk, hB, hE, hp, hb⟩; unfold stC; have HK := Lib.hid hk; have HB := Lib.hid hB; have HE := Lib.hid hE; have Hx := Lib.hid hxe; have Hp3 := Lib.hid hp; have Hb3 := Lib.hid (Hb2.out.trans hb); clear hk hB hE hxe hp hb hX2))
      refine leaves_cons (f := 60) (args := #[.pointer (some ⟨g, 0, none⟩)]) (by simp) (by simp [go_sem]) ?_
      obtain ⟨W, hW, hbW, hzW, hbP⟩ := one_al w3 (stC zk za zn zz zp K zkids.length kc B zbody.length bc E zels.length ec) 77
      unfold stC at hW
      rw [← hW]
      clear hW
      refine (leave_d g s2 .returning _ (Hp3.out.keep hbW) (by have := Hn2.out; have := Hok.out; unfold Ok at this; omega) (by have := Hn2.out; have := Hok.out; unfold Ok at this; omega)).mono ?_
      rintro r u' w'' ⟨rfl, rfl, hp, hb⟩
      have hlo3 : lo ≤ w3.heap.size := Nat.le_trans hlo Hb3.out.size
      refine ⟨_, by simp [results, Tryz.results89, go_sem], some ⟨w3.heap.size, 0, none⟩, 1, rfl, ?_, hp, (Hb3.out.trans (But.of_below hbW)).trans hb⟩
      have hxe := Hx.out
      (try simp only at hxe)
      rw [hxe]
      have hr1 := RdSs.one (lo := lo) hlo3 HK.out HB.out HE.out hbW hbP
      exact RdSs.more (fun _ hS => hS.up hb.size) _ _ _ (RdSs.keep (w' := w'') (fun p hp => hb.cell hp.2 (by have := hp.1; omega)) _ _ _ hr1)
  · rw [if_neg hb] at hr
    have hbf : s.isB ([105, 102] : List UInt8) = false := by simpa using hb
    rw [hbf] at hI
    have hX := fun w' (hp : PAt w' g s) (hl : lo ≤ w'.heap.size) => HB g lo s r w' hr (hok.less (Nat.le_succ k)) hp hl
    clear hb hbf hr hok h HS HB
    go_enter Tryz.func89, Tryz.ntmps89
    go_wp2_with (first
      | (go_at_call 61; refine hI.mono ?_; rintro r w1 ⟨rfl, hb⟩; have hX1 := hX w1 (H.out.keep hb) (Nat.le_trans hlo hb.size); have Hb1 := Lib.hid (But.of_below (g := g) hb); clear hb hI hX)
      | (go_at_call 45; refine hX1.mono ?_; rintro e w2 ⟨A, c, rfl, hB, hp, hb⟩; have HB := Lib.hid hB; have Hp := Lib.hid hp; have Hb2 := Lib.hid (Hb1.out.trans hb); clear hB hp hb hX1))
    go_ret
    exact ⟨A, c, rfl, HB.out, Hp.out, Hb2.out⟩
end Go.Proofs.YtiadbeglhnocoaaGreatDoor
namespace Go.Proofs.YtiadbeglhnocoaaGreatDoor
set_option linter.unusedVariables false
set_option linter.unusedSimpArgs false
open Go.RowKit

theorem infoStmt : (Tryz.prog.info? 77).map (fun i => (i.zero, i.size, i.bytes)) = some (some (.agg #[.int .i64 0, .int .i64 0, .int .i64 0, .string ⟨#[]⟩, .int .i64 0, .slice none 0 0, .slice none 0 0, .slice none 0 0]), 8, 120) := by kernel_rfl
theorem stC_one (k a n : Int) (z : ByteArray) (p : Int) (K : Option Addr) (m c : Nat) (B : Option Addr) (bm bc : Nat) (E : Option Addr) (em ec : Nat) : ∀ u ∈ ([.int .i64 k, .int .i64 a, .int .i64 n, .string z, .int .i64 p, .slice K m c, .slice B bm bc, .slice E em ec] : List Value), u.oneCell' = true := by
  intro u hu
  simp only [List.mem_cons, List.not_mem_nil, or_false] at hu
  rcases hu with rfl | rfl | rfl | rfl | rfl | rfl | rfl | rfl <;> rfl
/-- At the head of the loop over statements. -/
def HeadB (g : Nat) (w : World) (k : Nat) (r : List St × PS) (j : Nat) (u : Value) (wr : World) : Prop := ∃ xs l sl, stmtsFK j l sl = some r ∧ Ok k sl ∧ PAt wr g sl ∧ SrC wr w.heap.size u xs l ∧ But g w wr ∧ l.length + j ≤ k
set_option maxRecDepth 100000 in
set_option maxHeartbeats 8000000 in
theorem block_any (k : Nat) (HS : ∀ j, j < k → StC j) : BlC (k + 1) := by
  intro g lo s r w hr hok h hlo
  have hgl := h.lt
  refine Calls.mono ?_ (fun _ _ h => BlP.lo h hlo)
  clear hlo lo
  simp only [blockK] at hr
  cases hm : stmtsFK k [] (s.need1 ([123] : List UInt8)).enter with
  | none => rw [hm] at hr; cases hr
  | some y =>
    rw [hm] at hr
    obtain ⟨l, s2⟩ := y
    simp only [Option.some.injEq] at hr
    subst hr
    have hN := need1_at g s ([123] : List UInt8) w h
    have hok0 : Ok (k + 1) (s.need1 ([123] : List UInt8)) := hok.need _
    have hn0 : (s.need1 ([123] : List UInt8)).nest = s.nest := (even_need1 s _).1
    have hn2 : s2.nest = s.nest + 1 := by
      have := ((pureS_all k).stmts _ _ _ hm).1
      simp only at this
      rw [this, (enter_nest _).1, hn0]
    obtain ⟨s0, hs0⟩ : ∃ s0, s0 = s.need1 ([123] : List UInt8) := ⟨_, rfl⟩
    rw [← hs0] at hN hm hok0 hn0
    have hok1 : Ok k s0.enter := hok0.enter
    have hE := fun w' (hp : PAt w' g s0) => enter_any g s0 w' hp (by unfold Ok at hok0; omega) (by unfold Ok at hok0; omega)
    obtain ⟨s1, hs1⟩ : ∃ s1, s1 = s0.enter := ⟨_, rfl⟩
    rw [← hs1] at hE hm hok1
    have hC := fun w' (hp : PAt w' g s2) => need1_at g s2 ([125] : List UInt8) w' hp
    have hn3 : (s2.need1 ([125] : List UInt8)).nest = s.nest + 1 := by rw [(even_need1 s2 _).1, hn2]
    obtain ⟨s3, hs3⟩ : ∃ s3, s3 = s2.need1 ([125] : List UInt8) := ⟨_, rfl⟩
    rw [← hs3] at hC hn3 ⊢
    have Hn3 := Lib.hid hn3
    have Hok := Lib.hid hok
    have Hm := Lib.hid hm
    have Hok1 := Lib.hid hok1
    have hk25 := hok.1
    obtain ⟨i0, hi, hz0, hz1, hz2⟩ := info_parts infoStmt
    have Hi := Lib.hid hi
    have Hz0 := Lib.hid hz0
    have Hz1 := Lib.hid hz1
    have Hz2 := Lib.hid hz2
    clear hs0 hs1 hs3 hm hn0 hn2 hn3 hok hok0 hok1 h hi hz0 hz1 hz2
    go_enter_defers Tryz.func45, Tryz.ntmps45
    go_wp2_with (first
      | (go_at_call 38; refine hN.mono ?_; rintro e w1 ⟨rfl, hp, hb⟩; have hE1 := hE w1 hp; have Hb1 := Lib.hid hb; clear hp hb hN hE)
      | (go_at_call 59; refine hE1.mono ?_; rintro e w2 ⟨rfl, hp, hb⟩; have Hp2 := Lib.hid hp; have Hb2 := Lib.hid (Hb1.out.trans hb); clear hp hb hE1))
    go_loopg [3] k (fun gk u wr => Hid (HeadB g w k (l, s2) gk u wr))
    case atStart => exact Lib.hid ⟨[], [], s1, Hm.out, Hok1.out, Hp2.out, SrC.nil _ _, Hb2.out, by simp⟩
    case round =>
      obtain ⟨xs, l', sl, hst, hokl, hat, hsr, hbut, hlk⟩ := hrel.out
      clear hrel Hm Hok1 Hp2 Hb2
      obtain ⟨A, c, rfl⟩ := own_form hsr.1
      cases gk with
      | zero => simp [stmtsFK] at hst
      | succ j =>
        simp only [stmtsFK] at hst
        have hI := is_any g sl ([125] : List UInt8) wr hat
        have hNw := fun w' (hp : PAt w' g sl) => now_any g sl w' hp
        replace hat := Lib.hid hat
        replace hsr := Lib.hid hsr
        replace hbut := Lib.hid hbut
        by_cases hx : sl.isB ([125] : List UInt8) = true
        · rw [if_pos (Or.inl hx)] at hst
          simp only [Option.some.injEq, Prod.mk.injEq] at hst
          obtain ⟨rfl, rfl⟩ := hst
          rw [hx] at hI
          clear hx hNw
          go_wp2_with (first
            | (go_at_call 61; refine hI.mono ?_; rintro e w7 ⟨rfl, hb⟩; have Hp7 := Lib.hid (hat.out.keep hb); have Hb7 := Lib.hid (hbut.out.trans (But.of_below hb)); have Hsr7 := Lib.hid (hsr.out.but (But.of_below (g := g) hb) hgl); clear hb hI)
            | (go_at_call 38; refine (hC w7 Hp7.out).mono ?_; rintro e w8 ⟨rfl, hp, hb⟩; have Hp8 := Lib.hid hp; have Hb8 := Lib.hid (Hb7.out.trans hb); have Hsr8 := Lib.hid (Hsr7.out.but hb hgl); clear hp hb hC))
          refine leaves_cons (f := 60) (args := #[.pointer (some ⟨g, 0, none⟩)]) (by simp) (by simp [go_sem]) ?_
          refine (leave_d g s3 .returning _ Hp8.out (by have := Hn3.out; have := Hok.out; unfold Ok at this; omega) (by have := Hn3.out; have := Hok.out; unfold Ok at this; omega)).mono ?_
          rintro e u' w'' ⟨rfl, rfl, hp, hb⟩
          obtain ⟨A', c', hv, hr'⟩ := (Hsr8.out.but hb hgl).reads
          injection hv with e1 e2 e3
          subst e1 e3
          refine ⟨_, by simp [results, Tryz.results45, go_sem], A, c, rfl, ?_, hp, Hb8.out.trans hb⟩
          exact hr' 
        · have hxf : sl.isB ([125] : List UInt8) = false := by simpa using hx
          rw [hxf] at hI
          obtain ⟨t, hnow⟩ : ∃ t, t = sl.now := ⟨_, rfl⟩
          rw [← hnow] at hst hNw
          obtain ⟨tk, ta, tn, tb⟩ := t
          unfold tkV at hNw
          have f0 := tok_f0 tk ta tn ⟨tb.toArray⟩
          simp only at hst hNw
          by_cases hk0 : tk = 0
          · rw [if_pos (Or.inr hk0)] at hst
            simp only [Option.some.injEq, Prod.mk.injEq] at hst
            obtain ⟨rfl, rfl⟩ := hst
            have hkb : (tk != 0) = false := by simp [hk0]
            clear hx hxf hnow hk0
            go_wp2_with (first
              | (go_at_call 61; refine hI.mono ?_; rintro e w6 ⟨rfl, hb⟩; have Hp6 := Lib.hid (hat.out.keep hb); have hN6 := hNw w6 Hp6.out; have Hb6 := Lib.hid (But.of_below (g := g) hb); clear hb hI)
              | (go_at_call 18; refine hN6.mono ?_; rintro e w7 ⟨rfl, hb⟩; have Hp7 := Lib.hid (Hp6.out.keep hb); have Hbx := Lib.hid (Hb6.out.trans (But.of_below hb)); have Hb7 := Lib.hid (hbut.out.trans Hbx.out); have Hsr7 := Lib.hid (hsr.out.but Hbx.out hgl); clear hb hN6)
              | (go_at_call 38; refine (hC w7 Hp7.out).mono ?_; rintro e w8 ⟨rfl, hp, hb⟩; have Hp8 := Lib.hid hp; have Hb8 := Lib.hid (Hb7.out.trans hb); have Hsr8 := Lib.hid (Hsr7.out.but hb hgl); clear hp hb hC))
            refine leaves_cons (f := 60) (args := #[.pointer (some ⟨g, 0, none⟩)]) (by simp) (by simp [go_sem]) ?_
            refine (leave_d g s3 .returning _ Hp8.out (by have := Hn3.out; have := Hok.out; unfold Ok at this; omega) (by have := Hn3.out; have := Hok.out; unfold Ok at this; omega)).mono ?_
            rintro e u' w'' ⟨rfl, rfl, hp, hb⟩
            obtain ⟨A', c', hv, hr'⟩ := (Hsr8.out.but hb hgl).reads
            injection hv with e1 e2 e3
            subst e1 e3
            refine ⟨_, by simp [results, Tryz.results45, go_sem], A, c, rfl, ?_, hp, Hb8.out.trans hb⟩
            exact hr' 
          · rw [if_neg (by rintro (h1 | h1); exact hx h1; exact hk0 h1)] at hst
            cases hsm : stmtK j sl with
            | none => rw [hsm] at hst; cases hst
            | some y =>
              rw [hsm] at hst
              obtain ⟨x, s4⟩ := y
              simp only at hst
              have hkb : (tk != 0) = true := by simp [hk0]
              have hev := (pureS_all j).stmt _ _ hsm
              simp only at hev
              have hokn : Ok k s4 := hokl.even hev
              have hS := fun w' (hp : PAt w' g sl) => HS j (by omega) g w'.heap.size sl (x, s4) w' hsm (hokl.less (by omega)) hp (Nat.le_refl _)
              have Hst := Lib.hid hst
              have Hokn := Lib.hid hokn
              clear hx hxf hnow hk0 hst hsm hev hokn hokl
              go_upto_region 6 with (first
                | (go_at_call 61; refine hI.mono ?_; rintro e w6 ⟨rfl, hb⟩; have Hp6 := Lib.hid (hat.out.keep hb); have hN6 := hNw w6 Hp6.out; have Hb6 := Lib.hid (But.of_below (g := g) hb); clear hb hI)
                | (go_at_call 18; refine hN6.mono ?_; rintro e w7 ⟨rfl, hb⟩; have Hp7 := Lib.hid (Hp6.out.keep hb); have Hbx := Lib.hid (Hb6.out.trans (But.of_below hb)); have Hb7 := Lib.hid (hbut.out.trans Hbx.out); have Hsr7 := Lib.hid (hsr.out.but Hbx.out hgl); clear hb hN6))
              go_wp2_with (first
                | (go_at_call 62; refine (hS w7 Hp7.out).mono ?_; rintro e w8 ⟨zk, za, zn, zz, zp, zkids, zbody, zels, K, kc, B, bc, E, ec, rfl, hxe, hk, hB, hE, hp, hb⟩; unfold stC; obtain ⟨W9, hW9, hbW9, hzW9, hbP9⟩ := one_al w8 #[.int .i64 zk, .int .i64 za, .int .i64 zn, .string zz, .int .i64 zp, .slice K zkids.length kc, .slice B zbody.length bc, .slice E zels.length ec] 77; have Hx := Lib.hid hxe; have HK := Lib.hid (hk.bt (Bt.of_below (g := g) (q := g) hbW9) Hp7.out.lt Hp7.out.lt); have HB := Lib.hid (hB.bt (Bt.of_below (g := g) (q := g) hbW9) Hp7.out.lt Hp7.out.lt); have HE := Lib.hid (hE.bt (Bt.of_below (g := g) (q := g) hbW9) Hp7.out.lt Hp7.out.lt); have hb9 := hb.trans (But.of_below (g := g) hbW9); have Hsr9 := Lib.hid (Hsr7.out.but hb9 hgl); have Hlt := Lib.hid (show ∀ b, (Value.slice A l'.length c).ownBlock = some b → b < w7.heap.size from fun b hb => (Hsr7.out.1.lt b hb).2); have Hp9 := Lib.hid (hp.keep hbW9); have Hb9 := Lib.hid (Hb7.out.trans hb9); have HN9 := Lib.hid (World.news_of_block hbP9); have HO := Lib.hid (stC_one zk za zn zz zp K zkids.length kc B zbody.length bc E zels.length ec); have hsz : w.heap.size ≤ W9.heap.size := (Hb9.out.size); have hz7 : w.heap.size ≤ w7.heap.size := Hb7.out.size; have hz9 : w8.heap.size < W9.heap.size := (by omega); have HW9 := Lib.hid hW9; clear hxe hk hB hE hp hb hb9 hbW9 hbP9 hW9 hS)
                | (at_builtin; rw [← HW9.out]; refine wpList_append_lies _ rfl (.tmp 19) (.tmp 22) 47 rfl w.heap.size 77 i0 (.agg #[.int .i64 0, .int .i64 0, .int .i64 0, .string ⟨#[]⟩, .int .i64 0, .slice none 0 0, .slice none 0 0, .slice none 0 0]) 8 120 Tryz.underlying47 Hi.out Hz0.out Hz1.out Hz2.out rfl (by decide) (.slice A l'.length c) l'.length xs rfl Hsr9.out.1 ⟨w8.heap.size, 0, none⟩ 1 1 [.int .i64 zk, .int .i64 za, .int .i64 zn, .string zz, .int .i64 zp, .slice K zkids.length kc, .slice B zbody.length bc, .slice E zels.length ec] rfl rfl HN9.out HO.out (by decide) (by unfold maxLen; omega) (by omega) hsz _ rfl ?_; intro gp cp2 w10 hown10 hgrow10 hat10 hlt10; have hlo7 : w.heap.size ≤ w7.heap.size := Hb7.out.size; have Hsr10 := Lib.hid (SrC.snoc (lo := w7.heap.size) Hsr9.out HK.out HB.out HE.out hlo7 Hlt.out hgrow10 (by rcases hat10 with h1 | h1; exact Or.inl (by rw [h1]; rfl); exact Or.inr ⟨gp, rfl, by omega⟩) hown10); have hbb : Below (g + 1) W9 w10 := ⟨hgrow10.os, hgrow10.tape, hgrow10.output, hgrow10.size, fun i hi => hgrow10.block i (by omega) (fun e => by have := (Hsr9.out.1.lt i e.symm).1; omega)⟩; have Hp10 := Lib.hid (Hp9.out.up hbb); have Hb10 := Lib.hid (show But g w w10 from ⟨hgrow10.os.trans Hb9.out.os, hgrow10.tape.trans Hb9.out.tape, hgrow10.output.trans Hb9.out.output, Nat.le_trans Hb9.out.size hgrow10.size, fun i hi hg => (hgrow10.block i (by omega) (fun e => by have := (Hsr9.out.1.lt i e.symm).1; omega)).trans (Hb9.out.block i hi hg)⟩); clear hown10 hgrow10 hat10 hlt10 hbb))
              go_roundg j
              case rel =>
                have hx := Hx.out
                have hst := Hst.out
                (try simp only at hx)
                subst hx
                exact Lib.hid ⟨_, _, s4, hst, Hokn.out, Hp10.out, Hsr10.out, Hb10.out, by simp; omega⟩
              all_goals exact Nat.lt_succ_self _
end Go.Proofs.YtiadbeglhnocoaaGreatDoor
