/-
  Programs as bytes, over plain data: what is written is read again, and what is read has just these bytes.
-/
import Derived.Test.YthjlpbglnnebkaaCdT
namespace Go.Proofs.Ythjlpbglnnebkaa
open Go.RowKit Go.Shelf
set_option linter.unusedVariables false
set_option linter.unusedSimpArgs false

theorem cdN_pos (n : Nat) : 0 < (cdN n).length := by
  unfold cdN cdF
  split <;> simp
theorem numS_back (most n : Nat) (r : List UInt8) (h : n ≤ most) (h64 : n < 18446744073709551616) : numS most (some (cdN n ++ r)) = (n, some r) := by
  have hp := cdN_pos n
  have hq : numQ (cdN n ++ r) = (n, (cdN n).length) := by
    unfold numQ
    rw [cdN_read n r h64]
    simp
  show (if (numQ (cdN n ++ r)).2 = 0 ∨ most < (numQ (cdN n ++ r)).1 then ((0 : Nat), (none : Option (List UInt8))) else ((numQ (cdN n ++ r)).1, some ((cdN n ++ r).drop (numQ (cdN n ++ r)).2))) = _
  rw [hq, if_neg (by show ¬ ((cdN n).length = 0 ∨ most < n); omega)]
  simp
theorem numS_inv {most n : Nat} {s : Option (List UInt8)} {r : List UInt8} (h : numS most s = (n, some r)) : s = some (cdN n ++ r) ∧ n ≤ most ∧ n < 18446744073709551616 := by
  cases s with
  | none => cases h
  | some l =>
    have h : (if (numQ l).2 = 0 ∨ most < (numQ l).1 then ((0 : Nat), (none : Option (List UInt8))) else ((numQ l).1, some (l.drop (numQ l).2))) = (n, some r) := h
    by_cases hc : (numQ l).2 = 0 ∨ most < (numQ l).1
    · rw [if_pos hc] at h
      cases h
    · rw [if_neg hc] at h
      injection h with h1 h2
      injection h2 with h2
      unfold numQ at hc h1 h2
      cases hr : cdRd 10 0 l with
      | none => rw [hr] at hc; exact absurd (.inl rfl) hc
      | some p =>
        obtain ⟨m, q⟩ := p
        rw [hr] at hc h1 h2
        simp only at hc h1 h2
        obtain ⟨e, hlt⟩ := read_cdN hr
        subst h1
        have e2 : l.drop (l.length - q.length) = q := by
          rw [e]
          simp
        rw [e2] at h2
        subst h2
        exact ⟨by rw [← e], by omega, hlt⟩
theorem sign_uns (k : Nat) (h : k < 18446744073709551616) : signQ (unsQ k) = k ∧ InG (unsQ k) := by
  unfold signQ unsQ InG
  split <;> split <;> omega
def OneF (x : Int) : Prop := -1 ≤ x ∧ x ≤ 131071
theorem oneQ_back (x : Int) (r : List UInt8) (h : OneF x) : oneQ (some (cdN (u64Q (x + 1)) ++ r)) = (x, some r) := by
  have hu : u64Q (x + 1) ≤ 131072 ∧ ((u64Q (x + 1) : Nat) : Int) = x + 1 := by
    obtain ⟨h1, h2⟩ := h
    unfold u64Q
    omega
  unfold oneQ
  rw [numS_back 131072 _ r hu.1 (by omega)]
  simp only
  rw [hu.2]
  congr 1
  omega
theorem oneQ_inv {s : Option (List UInt8)} {x : Int} {r : List UInt8} (h : oneQ s = (x, some r)) : s = some (cdN (u64Q (x + 1)) ++ r) ∧ OneF x := by
  unfold oneQ at h
  obtain ⟨k, hk⟩ : ∃ k, k = (numS 131072 s).1 := ⟨_, rfl⟩
  injection h with h1 h2
  rw [← hk] at h1
  obtain ⟨e, hm, h64⟩ := numS_inv (n := k) (r := r) (by rw [hk, ← h2])
  have hu : u64Q (x + 1) = k := by subst h1; unfold u64Q; omega
  refine ⟨by rw [hu]; exact e, ?_⟩
  subst h1
  unfold OneF
  omega
theorem manyQ_back {α : Type} {item : Option (List UInt8) → α × Option (List UInt8)} {enc : α → List UInt8} (r : List UInt8) : ∀ (l acc : List α), (∀ x ∈ l, ∀ q, item (some (enc x ++ q)) = (x, some q)) → manyQ item l.length acc (some (l.flatMap enc ++ r)) = (acc ++ l, some r)
  | [], acc, _ => by simp [manyQ]
  | x :: l, acc, h => by
    have hx := h x (List.mem_cons_self ..) (l.flatMap enc ++ r)
    rw [List.flatMap_cons, List.append_assoc]
    show manyQ item l.length (acc ++ [(item (some (enc x ++ (l.flatMap enc ++ r)))).1]) (item (some (enc x ++ (l.flatMap enc ++ r)))).2 = _
    rw [hx]
    simp only
    rw [manyQ_back r l (acc ++ [x]) (fun y hy => h y (List.mem_cons_of_mem _ hy))]
    simp
theorem manyQ_inv {α : Type} {item : Option (List UInt8) → α × Option (List UInt8)} {enc : α → List UInt8} {P : α → Prop} (hi : ∀ s x q, item s = (x, some q) → s = some (enc x ++ q) ∧ P x) : ∀ (k : Nat) (acc l : List α) (s : Option (List UInt8)) (r : List UInt8), manyQ item k acc s = (l, some r) → ∃ l', l = acc ++ l' ∧ l'.length = k ∧ s = some (l'.flatMap enc ++ r) ∧ ∀ x ∈ l', P x
  | 0, acc, l, s, r, h => by
    unfold manyQ at h
    injection h with h1 h2
    exact ⟨[], by simp [h1], rfl, by simp [h2], fun _ h => by cases h⟩
  | k + 1, acc, l, none, r, h => by cases h
  | k + 1, acc, l, some t, r, h => by
    unfold manyQ at h
    obtain ⟨x, hx⟩ : ∃ x, x = (item (some t)).1 := ⟨_, rfl⟩
    rw [← hx] at h
    obtain ⟨l', h1, h2, h3, h4⟩ := manyQ_inv hi k _ _ _ _ h
    obtain ⟨e, hp⟩ := hi (some t) x (l'.flatMap enc ++ r) (by rw [hx, ← h3])
    refine ⟨x :: l', by rw [h1]; simp, by simp [h2], by rw [e]; simp, fun y hy => ?_⟩
    rcases List.mem_cons.mp hy with rfl | hy
    · exact hp
    · exact h4 y hy
theorem itemsQ_back {α : Type} {item : Option (List UInt8) → α × Option (List UInt8)} {enc : α → List UInt8} (most : Nat) (l : List α) (r : List UInt8) (h : ∀ x ∈ l, ∀ q, item (some (enc x ++ q)) = (x, some q)) (hl : l.length ≤ most) (h64 : most < 18446744073709551616) : itemsQ most item (some (cdN l.length ++ (l.flatMap enc ++ r))) = (l, some r) := by
  unfold itemsQ
  rw [numS_back most l.length _ hl (by omega)]
  simp only
  rw [manyQ_back r l [] h]
  rfl
theorem itemsQ_inv {α : Type} {item : Option (List UInt8) → α × Option (List UInt8)} {enc : α → List UInt8} {P : α → Prop} (hi : ∀ s x q, item s = (x, some q) → s = some (enc x ++ q) ∧ P x) {most : Nat} {s : Option (List UInt8)} {l : List α} {r : List UInt8} (h : itemsQ most item s = (l, some r)) : s = some (cdN l.length ++ (l.flatMap enc ++ r)) ∧ l.length ≤ most ∧ ∀ x ∈ l, P x := by
  unfold itemsQ at h
  obtain ⟨k, hk⟩ : ∃ k, k = (numS most s).1 := ⟨_, rfl⟩
  rw [← hk] at h
  obtain ⟨l', h1, h2, h3, h4⟩ := manyQ_inv hi _ _ _ _ _ h
  rw [List.nil_append] at h1
  subst h1
  obtain ⟨e, hm, -⟩ := numS_inv (n := k) (r := l.flatMap enc ++ r) (s := s) (most := most) (by rw [hk, ← h3])
  exact ⟨by rw [h2]; exact e, by omega, h4⟩
def RowF (most : Nat) (l : List Int) : Prop := l.length ≤ most ∧ ∀ x ∈ l, OneF x
theorem rowQ_back (most : Nat) (l : List Int) (r : List UInt8) (h : RowF most l) (h64 : most < 18446744073709551616) : rowQ most (some (cdRow l ++ r)) = (l, some r) := by
  unfold rowQ cdRow cdOnes
  rw [List.append_assoc]
  exact itemsQ_back most l r (fun x hx q => oneQ_back x q (h.2 x hx)) h.1 h64
theorem rowQ_inv {most : Nat} {s : Option (List UInt8)} {l : List Int} {r : List UInt8} (h : rowQ most s = (l, some r)) : s = some (cdRow l ++ r) ∧ RowF most l := by
  unfold rowQ at h
  obtain ⟨e, h1, h2⟩ := itemsQ_inv (enc := fun x => cdN (u64Q (x + 1))) (P := OneF) (fun s x q h => oneQ_inv h) h
  refine ⟨?_, h1, h2⟩
  unfold cdRow cdOnes
  rw [List.append_assoc]
  exact e
def BtF (most : Nat) (x : Int) : Prop := 0 ≤ x ∧ x ≤ most
theorem u64Q_bt {most : Nat} {x : Int} (h : BtF most x) (h64 : most < 18446744073709551616) : u64Q x ≤ most ∧ ((u64Q x : Nat) : Int) = x := by
  obtain ⟨h1, h2⟩ := h
  unfold u64Q
  omega
theorem numS_bt (most : Nat) (x : Int) (r : List UInt8) (h : BtF most x) (h64 : most < 18446744073709551616) : ((numS most (some (cdN (u64Q x) ++ r))).1 : Int) = x ∧ (numS most (some (cdN (u64Q x) ++ r))).2 = some r := by
  obtain ⟨h1, h2⟩ := u64Q_bt h h64
  rw [numS_back most _ r h1 (by omega)]
  exact ⟨h2, rfl⟩
theorem numS_btI {most : Nat} {s : Option (List UInt8)} {r : List UInt8} (h : (numS most s).2 = some r) : s = some (cdN (u64Q ((numS most s).1 : Int)) ++ r) ∧ BtF most ((numS most s).1 : Int) := by
  obtain ⟨e, hm, h64⟩ := numS_inv (n := (numS most s).1) (r := r) (s := s) (most := most) (by rw [← h])
  refine ⟨by rw [u64Q_nat _ h64]; exact e, ?_⟩
  unfold BtF
  omega
structure InsF (x : SIn) : Prop where
  op : BtF 36 x.op
  ty : BtF 4 x.ty
  args : RowF 65536 x.args
  n : InG x.n
  to_ : BtF 256 x.to_
structure BlkF (k : SB) : Prop where
  list : RowF 131072 k.list
  preds : RowF 65536 k.preds
  kind : BtF 3 k.kind
  arg : OneF k.arg
  to_ : RowF 2 k.to_
structure FunF (f : List UInt8 × SF) : Prop where
  name : f.1.length ≤ 1048576
  params : RowF 16 f.2.params
  ret : BtF 4 f.2.ret
  ins : f.2.ins.length ≤ 131072 ∧ ∀ x ∈ f.2.ins, InsF x
  blocks : f.2.blocks.length ≤ 65536 ∧ ∀ k ∈ f.2.blocks, BlkF k
structure ProgF (mn : Int) (fs : List (List UInt8 × SF)) : Prop where
  main : BtF 256 mn
  fns : fs.length ≤ 256 ∧ ∀ f ∈ fs, FunF f
theorem insQ_back (x : SIn) (r : List UInt8) (h : InsF x) : insQ (some (cdIns x ++ r)) = (x, some r) := by
  obtain ⟨a1, a2⟩ := numS_bt 36 x.op (cdN (u64Q x.ty) ++ (cdRow x.args ++ (cdN (signQ x.n) ++ (cdN (u64Q x.to_) ++ r)))) h.op (by decide)
  obtain ⟨b1, b2⟩ := numS_bt 4 x.ty (cdRow x.args ++ (cdN (signQ x.n) ++ (cdN (u64Q x.to_) ++ r))) h.ty (by decide)
  have c := rowQ_back 65536 x.args (cdN (signQ x.n) ++ (cdN (u64Q x.to_) ++ r)) h.args (by decide)
  have d := numS_back 18446744073709551615 (signQ x.n) (cdN (u64Q x.to_) ++ r) (by have := signQ_lt x.n h.n; omega) (signQ_lt x.n h.n)
  obtain ⟨e1, e2⟩ := numS_bt 256 x.to_ r h.to_ (by decide)
  have e : cdIns x ++ r = cdN (u64Q x.op) ++ (cdN (u64Q x.ty) ++ (cdRow x.args ++ (cdN (signQ x.n) ++ (cdN (u64Q x.to_) ++ r)))) := by unfold cdIns; simp only [List.append_assoc]
  rw [e]
  unfold insQ
  simp only [a2, b2, c, d, e2, a1, b1, e1, uns_sign]
theorem insQ_inv {s : Option (List UInt8)} {x : SIn} {r : List UInt8} (h : insQ s = (x, some r)) : s = some (cdIns x ++ r) ∧ InsF x := by
  unfold insQ at h
  simp only at h
  injection h with h1 h2
  obtain ⟨e5, f5⟩ := numS_btI h2
  obtain ⟨k4, hk4⟩ : ∃ k, k = (numS 18446744073709551615 (rowQ 65536 (numS 4 (numS 36 s).2).2).2).1 := ⟨_, rfl⟩
  obtain ⟨e4, f4, g4⟩ := numS_inv (n := k4) (by rw [hk4, ← e5])
  obtain ⟨l3, hl3⟩ : ∃ l, l = (rowQ 65536 (numS 4 (numS 36 s).2).2).1 := ⟨_, rfl⟩
  obtain ⟨e3, f3⟩ := rowQ_inv (l := l3) (by rw [hl3, ← e4])
  obtain ⟨e2, f2⟩ := numS_btI e3
  obtain ⟨e1, f1⟩ := numS_btI e2
  have hs := sign_uns k4 g4
  subst h1
  rw [← hk4, ← hl3]
  refine ⟨?_, ⟨f1, f2, f3, hs.2, f5⟩⟩
  unfold cdIns
  simp only [List.append_assoc, hs.1]
  exact e1
theorem blockQ_back (k : SB) (r : List UInt8) (h : BlkF k) : blockQ (some (cdBlk k ++ r)) = (k, some r) := by
  have a := rowQ_back 131072 k.list (cdRow k.preds ++ (cdN (u64Q k.kind) ++ (cdN (u64Q (k.arg + 1)) ++ (cdRow k.to_ ++ r)))) h.list (by decide)
  have b := rowQ_back 65536 k.preds (cdN (u64Q k.kind) ++ (cdN (u64Q (k.arg + 1)) ++ (cdRow k.to_ ++ r))) h.preds (by decide)
  obtain ⟨c1, c2⟩ := numS_bt 3 k.kind (cdN (u64Q (k.arg + 1)) ++ (cdRow k.to_ ++ r)) h.kind (by decide)
  have d := oneQ_back k.arg (cdRow k.to_ ++ r) h.arg
  have e := rowQ_back 2 k.to_ r h.to_ (by decide)
  have q : cdBlk k ++ r = cdRow k.list ++ (cdRow k.preds ++ (cdN (u64Q k.kind) ++ (cdN (u64Q (k.arg + 1)) ++ (cdRow k.to_ ++ r)))) := by unfold cdBlk; simp only [List.append_assoc]
  rw [q]
  unfold blockQ endQ
  simp only [a, b, c2, d, e, c1]
theorem blockQ_inv {s : Option (List UInt8)} {k : SB} {r : List UInt8} (h : blockQ s = (k, some r)) : s = some (cdBlk k ++ r) ∧ BlkF k := by
  unfold blockQ endQ at h
  simp only at h
  injection h with h1 h2
  obtain ⟨l5, hl5⟩ : ∃ l, l = (rowQ 2 (oneQ (numS 3 (rowQ 65536 (rowQ 131072 s).2).2).2).2).1 := ⟨_, rfl⟩
  obtain ⟨e5, f5⟩ := rowQ_inv (l := l5) (by rw [hl5, ← h2])
  obtain ⟨x4, hx4⟩ : ∃ x, x = (oneQ (numS 3 (rowQ 65536 (rowQ 131072 s).2).2).2).1 := ⟨_, rfl⟩
  obtain ⟨e4, f4⟩ := oneQ_inv (x := x4) (by rw [hx4, ← e5])
  obtain ⟨e3, f3⟩ := numS_btI e4
  obtain ⟨l2, hl2⟩ : ∃ l, l = (rowQ 65536 (rowQ 131072 s).2).1 := ⟨_, rfl⟩
  obtain ⟨e2, f2⟩ := rowQ_inv (l := l2) (by rw [hl2, ← e3])
  obtain ⟨l1, hl1⟩ : ∃ l, l = (rowQ 131072 s).1 := ⟨_, rfl⟩
  obtain ⟨e1, f1⟩ := rowQ_inv (l := l1) (by rw [hl1, ← e2])
  subst h1
  rw [← hl5, ← hx4, ← hl2, ← hl1]
  refine ⟨?_, ⟨f1, f2, f3, f4, f5⟩⟩
  unfold cdBlk
  simp only [List.append_assoc]
  exact e1
theorem textS_back (l r : List UInt8) : textS (l.length : Int) (some (l ++ r)) = (l, some r) := by
  show (if (l.length : Int) < 0 ∨ ((l ++ r).length : Int) < (l.length : Int) then (([] : List UInt8), (none : Option (List UInt8))) else ((l ++ r).take (l.length : Int).toNat, some ((l ++ r).drop (l.length : Int).toNat))) = _
  rw [if_neg (by simp; omega)]
  simp
theorem textS_inv {n : Int} {s : Option (List UInt8)} {l r : List UInt8} (h : textS n s = (l, some r)) : s = some (l ++ r) ∧ (l.length : Int) = n := by
  cases s with
  | none => cases h
  | some t =>
    have h : (if n < 0 ∨ (t.length : Int) < n then (([] : List UInt8), (none : Option (List UInt8))) else (t.take n.toNat, some (t.drop n.toNat))) = (l, some r) := h
    by_cases hc : n < 0 ∨ (t.length : Int) < n
    · rw [if_pos hc] at h
      cases h
    · rw [if_neg hc] at h
      injection h with h1 h2
      injection h2 with h2
      subst h1
      subst h2
      refine ⟨by rw [List.take_append_drop], ?_⟩
      rw [List.length_take]
      omega
theorem funQ_back (f : List UInt8 × SF) (r : List UInt8) (h : FunF f) : funQ (some (cdFn f.1 f.2 ++ r)) = (f, some r) := by
  have a := numS_back 1048576 f.1.length (f.1 ++ (cdRow f.2.params ++ (cdN (u64Q f.2.ret) ++ (cdN f.2.ins.length ++ (cdInss f.2.ins ++ (cdN f.2.blocks.length ++ (cdBlks f.2.blocks ++ r))))))) h.name (by have := h.name; omega)
  have b := textS_back f.1 (cdRow f.2.params ++ (cdN (u64Q f.2.ret) ++ (cdN f.2.ins.length ++ (cdInss f.2.ins ++ (cdN f.2.blocks.length ++ (cdBlks f.2.blocks ++ r))))))
  have c := rowQ_back 16 f.2.params (cdN (u64Q f.2.ret) ++ (cdN f.2.ins.length ++ (cdInss f.2.ins ++ (cdN f.2.blocks.length ++ (cdBlks f.2.blocks ++ r))))) h.params (by decide)
  obtain ⟨d1, d2⟩ := numS_bt 4 f.2.ret (cdN f.2.ins.length ++ (cdInss f.2.ins ++ (cdN f.2.blocks.length ++ (cdBlks f.2.blocks ++ r)))) h.ret (by decide)
  have e := itemsQ_back (item := insQ) (enc := cdIns) 131072 f.2.ins (cdN f.2.blocks.length ++ (cdBlks f.2.blocks ++ r)) (fun x hx q => insQ_back x q (h.ins.2 x hx)) h.ins.1 (by decide)
  have g := itemsQ_back (item := blockQ) (enc := cdBlk) 65536 f.2.blocks r (fun x hx q => blockQ_back x q (h.blocks.2 x hx)) h.blocks.1 (by decide)
  have q : cdFn f.1 f.2 ++ r = cdN f.1.length ++ (f.1 ++ (cdRow f.2.params ++ (cdN (u64Q f.2.ret) ++ (cdN f.2.ins.length ++ (cdInss f.2.ins ++ (cdN f.2.blocks.length ++ (cdBlks f.2.blocks ++ r))))))) := by unfold cdFn; simp only [List.append_assoc]
  rw [q]
  unfold cdInss cdBlks at *
  unfold funQ
  simp only [a, b, c, d2, e, g, d1]
theorem funQ_inv {s : Option (List UInt8)} {f : List UInt8 × SF} {r : List UInt8} (h : funQ s = (f, some r)) : s = some (cdFn f.1 f.2 ++ r) ∧ FunF f := by
  unfold funQ at h
  simp only at h
  injection h with h1 h2
  obtain ⟨a, ha⟩ : ∃ a, a = numS 1048576 s := ⟨_, rfl⟩
  rw [← ha] at h1 h2
  obtain ⟨b, hb⟩ : ∃ b, b = textS (a.1 : Int) a.2 := ⟨_, rfl⟩
  rw [← hb] at h1 h2
  obtain ⟨c, hc⟩ : ∃ c, c = rowQ 16 b.2 := ⟨_, rfl⟩
  rw [← hc] at h1 h2
  obtain ⟨d, hd⟩ : ∃ d, d = numS 4 c.2 := ⟨_, rfl⟩
  rw [← hd] at h1 h2
  obtain ⟨e, he⟩ : ∃ e, e = itemsQ 131072 insQ d.2 := ⟨_, rfl⟩
  rw [← he] at h1 h2
  obtain ⟨g, hg⟩ : ∃ g, g = itemsQ 65536 blockQ e.2 := ⟨_, rfl⟩
  rw [← hg] at h1 h2
  obtain ⟨e6, m6, f6⟩ := itemsQ_inv (enc := cdBlk) (P := BlkF) (fun s x q h => blockQ_inv h) (l := g.1) (r := r) (s := e.2) (most := 65536) (by rw [← hg, ← h2])
  obtain ⟨e5, m5, f5⟩ := itemsQ_inv (enc := cdIns) (P := InsF) (fun s x q h => insQ_inv h) (l := e.1) (s := d.2) (most := 131072) (by rw [← he, ← e6])
  have h4 : (numS 4 c.2).2 = some (cdN e.1.length ++ (e.1.flatMap cdIns ++ (cdN g.1.length ++ (g.1.flatMap cdBlk ++ r)))) := by rw [← hd]; exact e5
  obtain ⟨e4, f4⟩ := numS_btI h4
  rw [← hd] at e4 f4
  obtain ⟨e3, f3⟩ := rowQ_inv (l := c.1) (s := b.2) (most := 16) (by rw [← hc, ← e4])
  obtain ⟨e2, f2⟩ := textS_inv (l := b.1) (n := (a.1 : Int)) (s := a.2) (by rw [← hb, ← e3])
  obtain ⟨e1, m1, f1⟩ := numS_inv (n := a.1) (s := s) (most := 1048576) (by rw [← ha, ← e2])
  subst h1
  have hbl : b.1.length = a.1 := by omega
  refine ⟨?_, ⟨by rw [hbl]; exact m1, f3, f4, ⟨m5, f5⟩, ⟨m6, f6⟩⟩⟩
  unfold cdFn cdInss cdBlks
  simp only [List.append_assoc, hbl]
  exact e1
/-- The program that bytes say, or none. -/
def decodeQ (l : List UInt8) : Option (Int × List (List UInt8 × SF)) :=
  if 1048576 < l.length then none else
    let a := numS 256 (some l)
    let b := itemsQ 256 funQ a.2
    if b.2 = some [] then some (a.1, b.1) else none
theorem decodeQ_back (mn : Int) (fs : List (List UInt8 × SF)) (h : ProgF mn fs) (hl : (cdProg mn fs).length ≤ 1048576) : decodeQ (cdProg mn fs) = some (mn, fs) := by
  obtain ⟨a1, a2⟩ := numS_bt 256 mn (cdN fs.length ++ cdFns fs) h.main (by decide)
  have b := itemsQ_back (item := funQ) (enc := fun d => cdFn d.1 d.2) 256 fs [] (fun x hx q => funQ_back x q (h.fns.2 x hx)) h.fns.1 (by decide)
  rw [List.append_nil] at b
  unfold decodeQ
  rw [if_neg (by omega)]
  unfold cdProg
  unfold cdFns at *
  simp only [a2, b, a1, if_true]
theorem decodeQ_inv {l : List UInt8} {mn : Int} {fs : List (List UInt8 × SF)} (h : decodeQ l = some (mn, fs)) : cdProg mn fs = l ∧ ProgF mn fs := by
  unfold decodeQ at h
  by_cases hl : 1048576 < l.length
  · rw [if_pos hl] at h
    cases h
  · rw [if_neg hl] at h
    simp only at h
    obtain ⟨b, hb⟩ : ∃ b, b = itemsQ 256 funQ (numS 256 (some l)).2 := ⟨_, rfl⟩
    rw [← hb] at h
    by_cases hc : b.2 = some []
    · rw [if_pos hc] at h
      injection h with h
      injection h with h1 h2
      obtain ⟨e2, m2, f2⟩ := itemsQ_inv (enc := fun d => cdFn d.1 d.2) (P := FunF) (fun s x q h => funQ_inv h) (l := b.1) (r := []) (s := (numS 256 (some l)).2) (most := 256) (by rw [← hb, ← hc])
      obtain ⟨e1, f1⟩ := numS_btI e2
      subst h1
      subst h2
      refine ⟨?_, ⟨f1, m2, f2⟩⟩
      injection e1 with e1
      unfold cdProg cdFns
      refine Eq.trans ?_ e1.symm
      simp
    · rw [if_neg hc] at h
      cases h
end Go.Proofs.Ythjlpbglnnebkaa
