/-
  slices.AppendSeq and slices.Collect over an iterator that keeps a state of its own.
  sources over plain data: it ends; what it tells; a way back stands in later worlds.
  graph.Reach.
  The reference's From.
  From and Reach over plain data are the same ways, there and back.
-/
import Derived.Test.YthhjhdmdfneegaaJc36
import Derived.Maps.OwnIn
namespace Go.Proofs.Ythhjhdmdfneegaa
set_option linter.unusedVariables false
set_option linter.unusedSimpArgs false
open Go.RowKit Go.Shelf

attribute [local go_sem] Oper.semAt_some

end Go.Proofs.Ythhjhdmdfneegaa
namespace Go.Proofs.Ythhjhdmdfneegaa
set_option linter.unusedVariables false
set_option linter.unusedSimpArgs false
open Go.RowKit Go.Shelf

theorem BackAt.later {P : Program} {bv : Value} {bk : Nat → List Int} {n : Nat} {S0 : Nat → Prop} {W W' : World} (h : BackAt P bv bk n S0 W) (hz : W.heap.size ≤ W'.heap.size) (hs : ∀ k, S0 k → W'.heap[k]? = W.heap[k]?) : BackAt P bv bk n S0 W' := by
  obtain ⟨gf, lb, h1, h2, h3⟩ := h
  exact ⟨gf, lb, h1, h2, fun W1 b hb hz1 hs1 => h3 W1 b hb (Nat.le_trans hz hz1) (fun k hk => (hs1 k hk).trans (hs k hk))⟩

theorem enterP_len (b : Nat) (s : List Bool × List Nat) : (enterP b s).1.length = s.1.length := by
  unfold enterP
  split <;> simp
theorem enterP_cnt (b : Nat) (s : List Bool × List Nat) (hb : b < s.1.length) : 2 * unseen (enterP b s).1 + (enterP b s).2.length ≤ 2 * unseen s.1 + s.2.length := by
  unfold enterP
  cases h : s.1.getD b false with
  | true => simp [h]
  | false =>
    have := unseen_set s.1 b hb h
    simp [h]
    omega
theorem fold_len : ∀ (l : List Int) (s : List Bool × List Nat), (l.foldl (fun s x => enterP x.toNat s) s).1.length = s.1.length
  | [], s => rfl
  | x :: l, s => by
    rw [List.foldl_cons, fold_len l, enterP_len]
theorem fold_cnt (n : Nat) : ∀ (l : List Int) (s : List Bool × List Nat), s.1.length = n → (∀ x ∈ l, 0 ≤ x ∧ x < n) → 2 * unseen (l.foldl (fun s x => enterP x.toNat s) s).1 + (l.foldl (fun s x => enterP x.toNat s) s).2.length ≤ 2 * unseen s.1 + s.2.length
  | [], s, _, _ => Nat.le_refl _
  | x :: l, s, hs, hl => by
    have hx := hl x (by simp)
    have h1 := fold_cnt n l (enterP x.toNat s) (by rw [enterP_len]; exact hs) (fun y hy => hl y (List.mem_cons_of_mem _ hy))
    have h2 := enterP_cnt x.toNat s (by omega)
    rw [List.foldl_cons]
    omega
theorem srcRun_total (bk : Nat → List Int) (n : Nat) (hbk : ∀ b, b < n → ∀ x ∈ bk b, 0 ≤ x ∧ x < n) : ∀ (k : Nat) (sh : List Bool) (left o : List Nat), sh.length = n → (∀ b ∈ left, b < n) → 2 * unseen sh + left.length ≤ k → ∃ r, srcRun bk k sh left o = some r
  | k, sh, [], o, _, _, _ => ⟨(sh, o), by cases k <;> rfl⟩
  | 0, sh, b :: left, o, _, _, h => by simp at h
  | k + 1, sh, b :: left, o, hs, hl, h => by
    unfold srcRun
    have hb := hl b (by simp)
    have h1 := fold_cnt n (bk b) (sh, left) hs (hbk b hb)
    refine srcRun_total bk n hbk k _ _ _ (by rw [fold_len]; exact hs) (foldl_enter_lt n (bk b) (sh, left) (hbk b hb) (fun c hc => hl c (List.mem_cons_of_mem _ hc))) ?_
    simp at h h1
    omega
/-- What sources shuts and tells. -/
def srcP (bk : Nat → List Int) (n : Nat) (sh : List Bool) (b : Nat) : List Bool × List Nat := (srcRun bk (2 * n + 2) (enterP b (sh, [])).1 (enterP b (sh, [])).2 []).getD (sh, [])
theorem srcP_run {bk : Nat → List Int} {n : Nat} {sh : List Bool} {b : Nat} (hbk : ∀ b, b < n → ∀ x ∈ bk b, 0 ≤ x ∧ x < n) (hs : sh.length = n) (hb : b < n) : srcRun bk (2 * n + 2) (enterP b (sh, [])).1 (enterP b (sh, [])).2 [] = some (srcP bk n sh b) := by
  have h1 := enterP_cnt b (sh, []) (by simpa [hs] using hb)
  have h2 := unseen_le sh
  obtain ⟨r, hr⟩ := srcRun_total bk n hbk (2 * n + 2) (enterP b (sh, [])).1 (enterP b (sh, [])).2 [] (by rw [enterP_len]; exact hs) (fun c hc => by
    unfold enterP at hc
    split at hc
    · cases hc
    · simp at hc; omega) (by simp at h1; omega)
  unfold srcP
  rw [hr]
  rfl

/-- From which one comes, where nothing is shut. -/
inductive RB (bk : Nat → List Int) (sh : List Bool) (to_ : Nat) : Nat → Prop
  | here : sh.getD to_ false = false → RB bk sh to_ to_
  | back (b : Nat) (x : Int) : RB bk sh to_ b → x ∈ bk b → sh.getD x.toNat false = false → RB bk sh to_ x.toNat
/-- While it goes on: what is shut is what was, what waits, and what was told; all that was told had its ways looked at. -/
structure SI (bk : Nat → List Int) (sh0 : List Bool) (to_ n : Nat) (sh : List Bool) (left o done : List Nat) : Prop where
  len : sh.length = sh0.length
  n0 : sh0.length = n
  all : ∀ b, sh.getD b false = true ↔ (sh0.getD b false = true ∨ b ∈ left ∨ b ∈ o)
  rb : ∀ b, (b ∈ left ∨ b ∈ o) → RB bk sh0 to_ b
  nd : (left ++ o).Nodup
  new : ∀ b, (b ∈ left ∨ b ∈ o) → sh0.getD b false = false ∧ b < n
  cl : ∀ b ∈ done, ∀ x ∈ bk b, sh.getD x.toNat false = true
theorem getD_set (s : List Bool) (b c : Nat) (hb : b < s.length) : (s.set b true).getD c false = true ↔ (s.getD c false = true ∨ c = b) := by
  by_cases e : b = c
  · subst e
    exact ⟨fun _ => .inr rfl, fun _ => set_getD s b hb⟩
  · rw [set_getD_ne s b c e]
    constructor
    · exact .inl
    · rintro (h | h)
      · exact h
      · exact absurd h.symm e
theorem SI.enter {bk : Nat → List Int} {sh0 : List Bool} {to_ n x : Nat} {sh : List Bool} {left o done : List Nat} (h : SI bk sh0 to_ n sh left o done) (hx : x < n) (hr : sh0.getD x false = false → RB bk sh0 to_ x) :
    SI bk sh0 to_ n (enterP x (sh, left)).1 (enterP x (sh, left)).2 o done ∧ (enterP x (sh, left)).1.getD x false = true ∧ ∀ c, sh.getD c false = true → (enterP x (sh, left)).1.getD c false = true := by
  have hxs : x < sh.length := by rw [h.len, h.n0]; exact hx
  unfold enterP
  cases hq : sh.getD x false with
  | true => simp only [hq, if_true]; exact ⟨h, trivial, fun c hc => hc⟩
  | false =>
    simp only [hq, Bool.false_eq_true, if_false]
    have hq0 : sh0.getD x false = false := by
      cases h0 : sh0.getD x false with
      | false => rfl
      | true => have := (h.all x).2 (.inl h0); rw [hq] at this; cases this
    have hxl : x ∉ left := fun e => by have := (h.all x).2 (.inr (.inl e)); rw [hq] at this; cases this
    have hxo : x ∉ o := fun e => by have := (h.all x).2 (.inr (.inr e)); rw [hq] at this; cases this
    refine ⟨⟨by simpa using h.len, h.n0, fun b => ?_, fun b hb => ?_, ?_, fun b hb => ?_, fun b hb y hy => (getD_set sh x _ hxs).2 (.inl (h.cl b hb y hy))⟩, set_getD sh x hxs, fun c hc => (getD_set sh x c hxs).2 (.inl hc)⟩
    · rw [getD_set sh x b hxs, h.all b, List.mem_cons]
      constructor
      · rintro ((q | q | q) | q)
        · exact .inl q
        · exact .inr (.inl (.inr q))
        · exact .inr (.inr q)
        · exact .inr (.inl (.inl q))
      · rintro (q | (q | q) | q)
        · exact .inl (.inl q)
        · exact .inr q
        · exact .inl (.inr (.inl q))
        · exact .inl (.inr (.inr q))
    · rcases hb with hb | hb
      · rcases List.mem_cons.1 hb with rfl | hb
        · exact hr hq0
        · exact h.rb b (.inl hb)
      · exact h.rb b (.inr hb)
    · rw [List.cons_append, List.nodup_cons]
      exact ⟨fun e => by
        rcases List.mem_append.1 e with e | e
        · exact hxl e
        · exact hxo e, h.nd⟩
    · rcases hb with hb | hb
      · rcases List.mem_cons.1 hb with rfl | hb
        · exact ⟨hq0, hx⟩
        · exact h.new b (.inl hb)
      · exact h.new b (.inr hb)
theorem SI.fold {bk : Nat → List Int} {sh0 : List Bool} {to_ n b : Nat} {o done : List Nat} (hrb : RB bk sh0 to_ b) : ∀ (l : List Int) (s : List Bool × List Nat), SI bk sh0 to_ n s.1 s.2 o done → (∀ x ∈ l, 0 ≤ x ∧ x < n) → (∀ x ∈ l, x ∈ bk b) →
    SI bk sh0 to_ n (l.foldl (fun s x => enterP x.toNat s) s).1 (l.foldl (fun s x => enterP x.toNat s) s).2 o done ∧ (∀ x ∈ l, (l.foldl (fun s x => enterP x.toNat s) s).1.getD x.toNat false = true) ∧ ∀ c, s.1.getD c false = true → (l.foldl (fun s x => enterP x.toNat s) s).1.getD c false = true
  | [], s, h, _, _ => ⟨h, (fun x hx => by cases hx), fun c hc => hc⟩
  | x :: l, s, h, hl, hm => by
    have hx := hl x (by simp)
    obtain ⟨h1, h2, h3⟩ := h.enter (x := x.toNat) (by omega) (fun hq => RB.back b x hrb (hm x (by simp)) hq)
    obtain ⟨k1, k2, k3⟩ := SI.fold hrb l (enterP x.toNat s) h1 (fun y hy => hl y (List.mem_cons_of_mem _ hy)) (fun y hy => hm y (List.mem_cons_of_mem _ hy))
    rw [List.foldl_cons]
    refine ⟨k1, fun y hy => ?_, fun c hc => k3 c (h3 c hc)⟩
    rcases List.mem_cons.1 hy with rfl | hy
    · exact k3 _ h2
    · exact k2 y hy
theorem srcRun_spec (bk : Nat → List Int) (n : Nat) (hbk : ∀ b, b < n → ∀ x ∈ bk b, 0 ≤ x ∧ x < n) (sh0 : List Bool) (to_ : Nat) : ∀ (k : Nat) (sh : List Bool) (left o : List Nat) (sh' : List Bool) (xs : List Nat), srcRun bk k sh left o = some (sh', xs) → SI bk sh0 to_ n sh left o o → SI bk sh0 to_ n sh' [] xs xs
  | k, sh, [], o, sh', xs, h, hs => by
    have : (sh, o) = (sh', xs) := by cases k <;> simpa [srcRun] using h
    injection this with e1 e2
    subst e1 e2
    exact hs
  | 0, sh, b :: left, o, sh', xs, h, _ => by simp [srcRun] at h
  | k + 1, sh, b :: left, o, sh', xs, h, hs => by
    unfold srcRun at h
    have hb := (hs.new b (.inl (by simp))).2
    have hrb := hs.rb b (.inl (by simp))
    have h0 : SI bk sh0 to_ n sh left (o ++ [b]) o := by
      refine ⟨hs.len, hs.n0, fun c => ?_, fun c hc => hs.rb c ?_, ?_, fun c hc => hs.new c ?_, hs.cl⟩
      · rw [hs.all c]
        simp only [List.mem_cons, List.mem_append, List.not_mem_nil, or_false]
        constructor
        · rintro (q | (q | q) | q)
          · exact .inl q
          · exact .inr (.inr (.inr q))
          · exact .inr (.inl q)
          · exact .inr (.inr (.inl q))
        · rintro (q | q | q | q)
          · exact .inl q
          · exact .inr (.inl (.inr q))
          · exact .inr (.inr q)
          · exact .inr (.inl (.inl q))
      · simp only [List.mem_cons, List.mem_append, List.not_mem_nil, or_false] at hc ⊢
        rcases hc with q | q | q
        · exact .inl (.inr q)
        · exact .inr q
        · exact .inl (.inl q)
      · have := hs.nd
        rw [List.cons_append, List.nodup_cons] at this
        rw [← List.append_assoc, List.nodup_append]
        refine ⟨this.2, by simp, fun a ha c hc => ?_⟩
        simp at hc
        subst hc
        intro e
        subst e
        exact this.1 ha
      · simp only [List.mem_cons, List.mem_append, List.not_mem_nil, or_false] at hc ⊢
        rcases hc with q | q | q
        · exact .inl (.inr q)
        · exact .inr q
        · exact .inl (.inl q)
    obtain ⟨k1, k2, k3⟩ := SI.fold hrb (bk b) (sh, left) h0 (hbk b hb) (fun x hx => hx)
    refine srcRun_spec bk n hbk sh0 to_ k _ _ _ sh' xs h ⟨k1.len, k1.n0, k1.all, k1.rb, k1.nd, k1.new, fun c hc x hx => ?_⟩
    rcases List.mem_append.1 hc with hc | hc
    · exact k1.cl c hc x hx
    · simp at hc
      subst hc
      exact k2 x hx
/-- What sources tells is from where one comes; what is shut then is what was, and that. -/
theorem srcP_spec {bk : Nat → List Int} {n : Nat} {sh : List Bool} {b : Nat} (hbk : ∀ b, b < n → ∀ x ∈ bk b, 0 ≤ x ∧ x < n) (hs : sh.length = n) (hb : b < n) :
    (∀ c, c ∈ (srcP bk n sh b).2 ↔ RB bk sh b c) ∧ (∀ c, (srcP bk n sh b).1.getD c false = true ↔ (sh.getD c false = true ∨ c ∈ (srcP bk n sh b).2)) ∧ (srcP bk n sh b).2.Nodup ∧ (srcP bk n sh b).1.length = n ∧ ∀ c ∈ (srcP bk n sh b).2, c < n := by
  have hr := srcP_run hbk hs hb
  have h0 : SI bk sh b n sh [] [] [] := ⟨rfl, hs, fun c => by simp, fun c hc => by simp at hc, by simp, fun c hc => by simp at hc, fun c hc => by cases hc⟩
  obtain ⟨h1, h2, h3⟩ := h0.enter (x := b) hb (fun hq => RB.here hq)
  have h4 := srcRun_spec bk n hbk sh b (2 * n + 2) _ _ _ (srcP bk n sh b).1 (srcP bk n sh b).2 hr h1
  refine ⟨fun c => ⟨fun hc => h4.rb c (.inr hc), fun hc => ?_⟩, fun c => by rw [h4.all c]; simp, by simpa using h4.nd, by rw [h4.len, h4.n0], fun c hc => (h4.new c (.inr hc)).2⟩
  induction hc with
  | here hq =>
    have hin : (srcP bk n sh b).1.getD b false = true := by
      have : ∀ (k : Nat) (sh1 : List Bool) (left o : List Nat) (r : List Bool × List Nat), srcRun bk k sh1 left o = some r → sh1.getD b false = true → r.1.getD b false = true := by
        intro k
        induction k with
        | zero =>
          intro sh1 left o r h hq
          cases left with
          | nil => simp [srcRun] at h; rw [← h]; exact hq
          | cons c left => simp [srcRun] at h
        | succ k ih =>
          intro sh1 left o r h hq
          cases left with
          | nil => simp [srcRun] at h; rw [← h]; exact hq
          | cons c left =>
            unfold srcRun at h
            refine ih _ _ _ _ h ?_
            have hmono : ∀ (l : List Int) (s : List Bool × List Nat), s.1.getD b false = true → (l.foldl (fun s x => enterP x.toNat s) s).1.getD b false = true := by
              intro l
              induction l with
              | nil => exact fun s h => h
              | cons x l ihl =>
                intro s h
                rw [List.foldl_cons]
                refine ihl _ ?_
                unfold enterP
                split
                · exact h
                · by_cases e : x.toNat = b
                  · by_cases hl : x.toNat < s.1.length
                    · rw [e]; exact set_getD _ _ (by omega)
                    · rw [List.set_eq_of_length_le (by omega)]; exact h
                  · show (s.1.set x.toNat true).getD b false = true
                    rw [set_getD_ne _ _ _ e]; exact h
            exact hmono _ _ hq
      exact this _ _ _ _ _ hr h2
    rcases (h4.all b).1 hin with q | q | q
    · rw [hq] at q; cases q
    · cases q
    · exact q
  | back c x _ hx hq ih =>
    have := h4.cl c ih x hx
    rcases (h4.all _).1 this with q | q | q
    · rw [hq] at q; cases q
    · cases q
    · exact q
end Go.Proofs.Ythhjhdmdfneegaa
namespace Go.Proofs.Ythhjhdmdfneegaa
set_option linter.unusedVariables false
set_option linter.unusedSimpArgs false
open Go.RowKit Go.Shelf

attribute [local go_sem] Oper.semAt_some

/-- The same, where the loop's variable is slot q. -/
theorem wp_range_sep_at {P : Program} {α : Type} {g : Operand} {p q : Tmp} {assign body : Code} {Q : Exit → Act → World → Prop} {a : Act} {w : World} {gf : Nat} {lb : Array Value}
    (hg : a.eval g = .func (.func gf) #[] lb) (eg : ∀ args w, (callFunc gf args).run P w = .ok (.enter gf args) w)
    {enc : α → Value} {xs : List α} {S Wr : Nat → Prop} {Post : World → Prop} (hseq : ∀ W1, Below w.heap.size w W1 → SepGives P gf lb enc xs S Wr Post W1)
    (hPost : ∀ A B : World, Post A → A.heap.size ≤ B.heap.size → (∀ k, k < w.heap.size → B.heap[k]? = A.heap[k]?) → Post B)
    (I : List α → (Nat → Prop) → World → Prop) (F0 : Nat → Prop)
    (hIoff : ∀ pre F A B, I pre F A → StepOff F A B → I pre F B) (hIlt : ∀ pre F A, I pre F A → ∀ k, F k → k < A.heap.size)
    (hF0 : ∀ k, F0 k → ¬ S k) (hS : ∀ k, S k → k < w.heap.size) (h0 : I [] F0 w)
    (hassign : ∀ (l : Nat) (x : α) (W : World) (K : Act → World → Prop), K { tmps := (a.tmps.setIfInBounds p (enc x)).setIfInBounds q (enc x), defers := [] } W →
      assign.wpIn (Fence.wide.inRound l) 0 P (Exit.then K (fun _ _ _ => False)) { tmps := a.tmps.setIfInBounds p (enc x), defers := [] } W)
    (hbody : ∀ (l : Nat) (pre : List α) (x : α) (F : Nat → Prop) (A : World), I pre F A → (pre ++ [x]) <+: xs → body.wpIn (Fence.wide.inRound l) 0 P (fun e a' B => e = .normal ∧ ∃ F', I (pre ++ [x]) F' B ∧ StepOn F F' A B) { tmps := (a.tmps.setIfInBounds p (enc x)).setIfInBounds q (enc x), defers := [] } A)
    (hdone : ∀ (D : Nat) (F' : Nat → Prop) (W' : World), I xs F' W' → Post W' → Framed F0 F' Wr w W' → W'.heap[D]? = some (.deferred (some [])) → w.heap.size ≤ D → ¬ F' D → Q .normal { a with defers := { target := .collected D, args := #[] } :: a.defers } W') :
    (Code.rangeFunc g #[p] assign body).wp P Q a w :=
  wp_range_sep hg eg hseq rfl hPost I F0 hIoff hIlt hF0 hS h0 (fun x => { tmps := (a.tmps.setIfInBounds p (enc x)).setIfInBounds q (enc x), defers := [] }) (fun l x W K hK => by
    have := hassign l x W K hK
    simpa using this) hbody hdone
theorem own_full {w : World} {base : Nat} {T : TypeId} {g n : Nat} {xs : List Value} (h : w.ownsRow base T 1 (.slice (some ⟨g, 0, none⟩) n n) n xs) : w.heap[g]? = some (.cells xs.toArray T (0, 0)) := by
  rcases h.2 with ⟨h', _⟩ | ⟨g', cap, cur, h', hb, hg, hnc, hcm, hcs, ht⟩
  · simp at h'
  · simp only [Value.slice.injEq, Option.some.injEq, Addr.mk.injEq, and_true, true_and] at h'
    obtain ⟨rfl, rfl⟩ := h'
    rw [hg, ← ht, Nat.mul_one, List.take_of_length_le (by rw [Array.length_toList, hcs]; omega)]
theorem full_own {w : World} {base : Nat} {T : TypeId} {g n : Nat} {xs : List Value} (h : w.heap[g]? = some (.cells xs.toArray T (0, 0))) (hl : xs.length = n) (hb : base ≤ g) (hm : n ≤ maxLen) : w.ownsRow base T 1 (.slice (some ⟨g, 0, none⟩) n n) n xs :=
  ⟨by omega, .inr ⟨g, n, xs.toArray, rfl, hb, h, Nat.le_refl _, hm, by simp; omega, by rw [Nat.mul_one]; simp; rw [← hl, List.take_length]⟩⟩
def markP (l : List Bool) (xs : List Nat) : List Bool := xs.foldl (fun s b => s.set b true) l
theorem markP_len : ∀ (xs : List Nat) (l : List Bool), (markP l xs).length = l.length
  | [], _ => rfl
  | x :: xs, l => by unfold markP; rw [List.foldl_cons]; have := markP_len xs (l.set x true); unfold markP at this; rw [this]; simp
theorem markP_snoc (l : List Bool) (xs : List Nat) (b : Nat) : markP l (xs ++ [b]) = (markP l xs).set b true := by simp [markP]
/-- The ways back of a function by Preds. -/
def bkG (g : List GB) (b : Nat) : List Int := ((g[b]?.map GB.preds).getD []).filter (hasG g.length)
theorem bkG_in (g : List GB) : ∀ b, b < g.length → ∀ x ∈ bkG g b, 0 ≤ x ∧ x < g.length := fun b _ x hx => by
  unfold bkG at hx
  exact of_decide_eq_true (List.mem_filter.1 hx).2
def shutG (n : Nat) (without : Int) : List Bool := if hasG n without then (List.replicate n false).set without.toNat true else List.replicate n false
theorem shutG_len (n : Nat) (without : Int) : (shutG n without).length = n := by unfold shutG; split <;> simp
def reachP (g : List GB) (to_ without : Int) : List Bool := if wholeG g && hasG g.length to_ then markP (List.replicate g.length false) (srcP (bkG g) g.length (shutG g.length without) to_.toNat).2 else List.replicate g.length false

end Go.Proofs.Ythhjhdmdfneegaa
namespace Go.Proofs.Ythhjhdmdfneegaa
set_option linter.unusedVariables false
set_option linter.unusedSimpArgs false
open Go.RowKit Go.Shelf

def setT (wo : Int) (out : List Bool) (t : Int) : List Bool := if t = wo then out else out.set t.toNat true
def stepX (g : List GB) (wo : Int) (out : List Bool) (x : Nat) : List Bool := if out.getD x false then (tosG g x).foldl (setT wo) out else out
/-- From block x on. -/
def passR (g : List GB) (wo : Int) : Nat → Nat → List Bool → List Bool
  | 0, _, out => out
  | k + 1, x, out => passR g wo k (x + 1) (stepX g wo out x)
def iterP (g : List GB) (wo : Int) : Nat → List Bool → List Bool
  | 0, out => out
  | k + 1, out => iterP g wo k (passR g wo g.length 0 out)
def fromP (g : List GB) (b wo : Int) : List Bool := if b = wo ∨ (g.length : Int) ≤ b then List.replicate g.length false else iterP g wo g.length ((List.replicate g.length false).set b.toNat true)
theorem setT_len (wo : Int) (out : List Bool) (t : Int) : (setT wo out t).length = out.length := by unfold setT; split <;> simp
theorem setT_mono (wo : Int) (out : List Bool) (t : Int) (c : Nat) (h : out.getD c false = true) : (setT wo out t).getD c false = true := by
  unfold setT
  split
  · exact h
  · by_cases e : t.toNat = c
    · by_cases hl : t.toNat < out.length
      · rw [e]; exact set_getD _ _ (by omega)
      · rw [List.set_eq_of_length_le (by omega)]; exact h
    · rw [set_getD_ne _ _ _ e]; exact h

set_option maxRecDepth 100000 in
set_option maxHeartbeats 16000000 in
theorem from_g (n0 : Nat) (f : Value) (g : List GB) (b wo : Int) (w : World) (hf : GF n0 w f g) (hn : n0 ≤ w.heap.size) (hg : tosOk g) (hb : 0 ≤ b) (hbi : InG b) (hwi : InG wo) :
    Calls Try.prog 54 #[f, .int .i64 b, .int .i64 wo] w fun e w' => ∃ v, e = .returned v ∧ w'.ownsRow w.heap.size 4 1 v g.length (boolsV (fromP g b wo)) ∧ Below w.heap.size w w' := by
  obtain ⟨s, pA, pn, pc, r, iA, in_, ic, bA, bn, bc, rfl, hG, hbn⟩ := hf
  obtain ⟨W, hW, hbW, hzW, h0W⟩ := gr_one w #[.string s, .slice pA pn pc, .int .i64 r, .slice iA in_ ic, .slice bA bn bc] 43
  obtain ⟨x0, x1, x2, x3, x4, -⟩ := gr_five h0W
  have hlen : bn ≤ 1048576 := by rw [hbn]; obtain ⟨_, _, _, h, _⟩ := hG; exact h
  obtain ⟨i0, hi0, hz0, hz1, hz2⟩ := info_parts infoBoolG
  have Hi := Lib.hid hi0
  have Hz0 := Lib.hid hz0
  have Hz1 := Lib.hid hz1
  have Hz2 := Lib.hid hz2
  have HG := Lib.hid hG
  have Hbn := Lib.hid hbn
  have HbW := Lib.hid hbW
  have HW := Lib.hid hW
  have HzW := Lib.hid hzW
  have H0W := Lib.hid h0W
  have Hg := Lib.hid hg
  have Hbi := Lib.hid hbi
  clear hi0 hz0 hz1 hz2 hbW hW hG hbn hzW h0W hg hbi
  go_enter Try.func54, Try.ntmps54
  go_upto_region 1 with fail
  rw [← HW.out]
  go_wp2_with (at_make; refine wpList_make_full _ rfl (.tmp 14) (.tmp 14) 95 rfl W.heap.size 4 i0 (.bool false) 1 Try.underlying95 Hi.out Hz0.out Hz1.out _ _ _ _ bn rfl rfl rfl rfl (by rw [Hz2.out]; omega) (by unfold maxLen; omega) (Nat.le_refl _) ?_)
  intro w2 ho2 hg2
  have hb2 : Below W.heap.size W w2 := (Below.refl _ _).grown hg2 (Nat.le_refl _) (fun k e => by cases e)
  rw [madeBool] at ho2
  have hs2 := own_full ho2
  have hsl : W.heap.size < w2.heap.size := gr_in hs2
  have Hb2 := Lib.hid hb2
  have Hs2 := Lib.hid hs2
  have H02 := Lib.hid ((hb2.block w.heap.size (by have := HzW.out; omega)).trans H0W.out)
  clear ho2 hg2 hb2 hs2 x0 x1 x2 x3 x4
  have hearly : ∀ res, res = List.replicate bn false → w2.ownsRow w.heap.size 4 1 (.slice (some ⟨W.heap.size, 0, none⟩) bn bn) bn (boolsV res) := fun res e => by
    rw [e]
    exact full_own Hs2.out (by simp [boolsV]) (by have := HzW.out; omega) (by unfold maxLen; omega)
  have Hearly := Lib.hid hearly
  clear hearly
  go_upto_region 2 with fail
  by_cases h1 : b = wo
  · have hres : fromP g b wo = List.replicate bn false := by unfold fromP; rw [if_pos (.inl h1), Hbn.out]
    subst h1
    have hq : (b == b) = true := by simp
    go_wp2
    go_ret
    refine ⟨_, rfl, ?_, HbW.out.trans (Hb2.out.mono (by have := HzW.out; omega))⟩
    rw [← Hbn.out]
    exact Hearly.out _ hres
  · have hq : (b == wo) = false := eqb_ne h1
    by_cases h2 : (bn : Int) ≤ b
    · have hres : fromP g b wo = List.replicate bn false := by unfold fromP; rw [if_pos (.inr (by rw [← Hbn.out]; exact h2)), Hbn.out]
      clear h1
      go_wp2
      go_ret
      refine ⟨_, rfl, ?_, HbW.out.trans (Hb2.out.mono (by have := HzW.out; omega))⟩
      rw [← Hbn.out]
      exact Hearly.out _ hres
    · have hres : fromP g b wo = iterP g wo bn ((List.replicate bn false).set b.toNat true) := by
        unfold fromP
        rw [if_neg (by rw [← Hbn.out]; intro h; rcases h with h | h; exact h1 h; exact h2 h), Hbn.out]
      obtain ⟨bb, hbb⟩ : ∃ bb : Nat, b = bb := ⟨b.toNat, by omega⟩
      subst hbb
      have hbb2 : bb < bn := by omega
      have Hres := Lib.hid hres
      rw [Int.toNat_natCast] at Hres
      clear hres h1 Hearly
      have c0 : w2.cell? ⟨W.heap.size, bb, none⟩ = some (.bool false) := by rw [Lib.cell_of_heap Hs2.out bb]; simp [boolsV, hbb2]
      have cf := Lib.frozen_of_heap Hs2.out bb
      obtain ⟨V, hV⟩ : ∃ V, V = w2.setCell ⟨W.heap.size, bb, none⟩ (.bool true) := ⟨_, rfl⟩
      have hVs : V.heap[W.heap.size]? = some (.cells (boolsV ((List.replicate bn false).set bb true)).toArray 4 (0, 0)) := by
        rw [hV, gr_put Hs2.out bb]
        simp only [List.setIfInBounds_toArray, boolsV_set]
      have hVb : Below W.heap.size W V := by rw [hV]; exact Hb2.out.setCell (p := ⟨W.heap.size, bb, none⟩) (Nat.le_refl _) _
      obtain ⟨res, hre⟩ : ∃ res, res = iterP g wo bn ((List.replicate bn false).set bb true) := ⟨_, rfl⟩
      have Hre := Lib.hid hre
      have HN0 : Hid (V.heap[W.heap.size]? = some (.cells (boolsV ((List.replicate bn false).set bb true)).toArray 4 (0, 0)) ∧ Below W.heap.size W V ∧ ((List.replicate bn false).set bb true).length = bn ∧ iterP g wo (bn - 0) ((List.replicate bn false).set bb true) = res) := Lib.hid ⟨hVs, hVb, by simp, by rw [hre]; rfl⟩
      have HV := Lib.hid hV
      clear hV hVs hVb hre h2
      go_upto_region 5 with fail
      rw [← HV.out]
      clear c0 cf
      go_upto_region 6 with fail
      go_loopw [8] (fun u8 wr => ∃ (k : Nat) (out : List Bool), k ≤ bn ∧ u8 = .int .i64 k ∧ Hid (wr.heap[W.heap.size]? = some (.cells (boolsV out).toArray 4 (0, 0)) ∧ Below W.heap.size W wr ∧ out.length = bn ∧ iterP g wo (bn - k) out = res)) (fun u8 _ => bn - (intOf u8).toNat)
      case atStart => exact ⟨0, _, Nat.zero_le _, rfl, HN0⟩
      case round =>
        clear HN0
        obtain ⟨k, out, hk, rfl, HN⟩ := hrel
        by_cases hltk : k < bn
        · have HP0 : Hid (iterP g wo (bn - (k + 1)) (passR g wo (bn - 0) 0 out) = res) := Lib.hid (by
            have := HN.out.2.2.2
            rw [show bn - k = (bn - (k + 1)) + 1 by omega, iterP, ← Hbn.out] at this
            exact this)
          have HN1 := Lib.hid (And.intro HN.out.1 (And.intro HN.out.2.1 HN.out.2.2.1))
          clear HN
          go_upto_region 9 with fail
          go_loopw [9] (fun u9 wr => ∃ (x : Nat) (out : List Bool), x ≤ bn ∧ u9 = .int .i64 x ∧ Hid (iterP g wo (bn - (k + 1)) (passR g wo (bn - x) x out) = res) ∧ Hid (wr.heap[W.heap.size]? = some (.cells (boolsV out).toArray 4 (0, 0)) ∧ Below W.heap.size W wr ∧ out.length = bn)) (fun u9 _ => bn - (intOf u9).toNat)
          case atStart => exact ⟨0, out, Nat.zero_le _, rfl, HP0, HN1⟩
          case round =>
            clear HP0 HN1
            obtain ⟨x, out, hx, rfl, HP, HN⟩ := hrel
            by_cases hltx : x < bn
            · have hxg : x < g.length := by rw [← Hbn.out]; exact hltx
              obtain ⟨q, o, qA, qc, tA, tc, lA2, ln, lc2, rfl, hq0, d0, d1, d2, d3, d4W, rp, rt, hok⟩ := HG.out.at hxg
              have hto : tosG g x = g[x].to_ := tosG_at hxg
              obtain ⟨to_, hto_⟩ : ∃ l, l = g[x].to_ := ⟨_, rfl⟩
              obtain ⟨m, hm⟩ : ∃ m, m = to_.length := ⟨_, rfl⟩
              have hmb : m ≤ 1048576 := by rw [hm, hto_]; exact hok.2.2.1
              rw [← hto_] at hto d4W rt
              rw [← hm] at d4W rt
              have hmem : ∀ t ∈ to_, 0 ≤ t ∧ t < (bn : Int) := fun t ht => by rw [Hbn.out]; exact Hg.out x t (by rw [hto]; exact ht)
              have hstep : passR g wo (bn - x) x out = passR g wo (bn - (x + 1)) (x + 1) (stepX g wo out x) := by rw [show bn - x = (bn - (x + 1)) + 1 by omega, passR]
              have HP2 : Hid (iterP g wo (bn - (k + 1)) (passR g wo (bn - (x + 1)) (x + 1) (stepX g wo out x)) = res) := Lib.hid (by rw [← hstep]; exact HP.out)
              have Hm := Lib.hid hm
              have Hto := Lib.hid hto
              have Hrt := Lib.hid rt
              have Hmem := Lib.hid hmem
              have Hd4 := Lib.hid d4W
              have hqW : q < w.heap.size := by omega
              have hox : x < out.length := by rw [HN.out.2.2]; exact hltx
              obtain ⟨fin, hfin⟩ : ∃ fin, fin = stepX g wo out x := ⟨_, rfl⟩
              rw [← hfin] at HP2
              have Hfin := Lib.hid hfin
              clear hto hm rt hmem hto_ hstep HP hok rp d0 d1 d2 d3 d4W hq0 hfin hxg
              go_upto_region 12 with fail
              go_loopw [10] (fun u10 wr => ∃ (i : Nat) (out : List Bool), i ≤ m ∧ u10 = .int .i64 i ∧ x < out.length ∧ Hid ((if out.getD x false then (to_.drop i).foldl (setT wo) out else out) = fin) ∧ Hid (wr.heap[W.heap.size]? = some (.cells (boolsV out).toArray 4 (0, 0)) ∧ Below W.heap.size W wr ∧ out.length = bn)) (fun u10 _ => m - (intOf u10).toNat)
              case atStart => exact ⟨0, out, Nat.zero_le _, rfl, hox, Lib.hid (by rw [Hfin.out]; unfold stepX; rw [Hto.out]; rfl), HN⟩
              case round =>
                clear HN hox
                obtain ⟨i, out, hi, rfl, hox, HF, HN⟩ := hrel
                obtain ⟨hsr, hbr, hol⟩ := HN.out
                have h0r := (hbr.block w.heap.size (by have := HzW.out; omega)).trans H0W.out
                obtain ⟨x0, x1, x2, x3, x4, -⟩ := gr_five h0r
                have d4 := (hbr.cell (p := ⟨q, _, none⟩) (by have := HzW.out; show q < W.heap.size; omega)).trans ((HbW.out.cell (p := ⟨q, _, none⟩) (by show q < w.heap.size; exact hqW)).trans Hd4.out)
                have e0 : wr.cell? ⟨W.heap.size, x, none⟩ = some (.bool (out.getD x false)) := by
                  rw [Lib.cell_of_heap hsr x]
                  have := boolsV_at out x hox
                  simpa using this
                by_cases hlti : i < m
                · cases hqx : out.getD x false with
                  | false =>
                    rw [hqx] at e0
                    have hfe : out = fin := by have := HF.out; rw [hqx, if_neg (by simp)] at this; exact this
                    subst hfe
                    clear hsr hbr hol h0r hqx HF
                    go_wp2
                    go_roundw
                    case rel => exact ⟨x + 1, out, by omega, by go_num, HP2, HN⟩
                    case measure => simp [intOf]; omega
                  | true =>
                    rw [hqx] at e0
                    have hil : i < to_.length := by rw [← Hm.out]; exact hlti
                    have hf2 := HF.out
                    rw [hqx, if_pos rfl, List.drop_eq_getElem_cons hil, List.foldl_cons] at hf2
                    obtain ⟨b2, o2, rfl, hb2, hc2⟩ := (Hrt.out.keep (HbW.out.mono hn |>.trans (hbr.mono (by have := HzW.out; omega)))).at hil
                    obtain ⟨t0, t1⟩ := Hmem.out to_[i] (List.getElem_mem hil)
                    obtain ⟨t, ht⟩ : ∃ t : Nat, (t : Int) = to_[i] := ⟨to_[i].toNat, by omega⟩
                    rw [← ht] at hc2 t0 t1 hf2
                    have htn : t < bn := by omega
                    have hmono := setT_mono wo out (t : Int) x hqx
                    have hlen2 := setT_len wo out (t : Int)
                    have HF2 : Hid ((if (setT wo out (t : Int)).getD x false then (to_.drop (i + 1)).foldl (setT wo) (setT wo out (t : Int)) else setT wo out (t : Int)) = fin) := Lib.hid (by rw [hmono, if_pos rfl]; exact hf2)
                    cases hqt : ((t : Int) != wo) with
                    | false =>
                      have hst : setT wo out (t : Int) = out := by unfold setT; rw [if_pos (by simpa using hqt)]
                      rw [hst] at HF2
                      clear hsr hbr hol h0r hqx HF hf2 hmono hlen2 hst ht t0 t1 hb2 hil
                      go_wp2
                      go_roundw
                      case rel => exact ⟨i + 1, out, by omega, by go_num, hox, HF2, HN⟩
                      case measure => simp [intOf]; omega
                    | true =>
                      have hst : setT wo out (t : Int) = out.set t true := by unfold setT; rw [if_neg (by simpa using hqt), Int.toNat_natCast]
                      rw [hst] at HF2
                      have c0 : ∃ v, wr.cell? ⟨W.heap.size, t, none⟩ = some v := ⟨_, by rw [Lib.cell_of_heap hsr t]; simp [boolsV, hol, htn]; rfl⟩
                      obtain ⟨v0, c0⟩ := c0
                      have cf := Lib.frozen_of_heap hsr t
                      obtain ⟨Z, hZ⟩ : ∃ Z, Z = wr.setCell ⟨W.heap.size, t, none⟩ (.bool true) := ⟨_, rfl⟩
                      have hZs : Z.heap[W.heap.size]? = some (.cells (boolsV (out.set t true)).toArray 4 (0, 0)) := by
                        rw [hZ, gr_put hsr t]
                        simp only [List.setIfInBounds_toArray, boolsV_set]
                      have hZb : Below W.heap.size W Z := by rw [hZ]; exact hbr.setCell (p := ⟨W.heap.size, t, none⟩) (Nat.le_refl _) _
                      have HNZ := Lib.hid (And.intro hZs (And.intro hZb (show (out.set t true).length = bn by simpa using hol)))
                      have hox2 : x < (out.set t true).length := by simpa using hox
                      have HZ := Lib.hid hZ
                      clear hsr hbr hol h0r hqx HF hf2 hmono hlen2 hst ht t0 t1 hb2 hil hZ hZs hZb
                      go_upto_region 16 with fail
                      go_wp2
                      rw [← HZ.out]
                      go_wp2
                      go_roundw
                      case rel => exact ⟨i + 1, _, by omega, by go_num, hox2, HF2, HNZ⟩
                      case measure => simp [intOf]; omega
                · obtain rfl : i = m := by omega
                  have hfe : out = fin := by
                    have := HF.out
                    rw [Hm.out, List.drop_length] at this
                    simpa using this
                  subst hfe
                  clear hsr hbr hol h0r HF
                  go_wp2
                  go_roundw
                  case rel => exact ⟨x + 1, out, by omega, by go_num, HP2, HN⟩
                  case measure => simp [intOf]; omega
            · obtain rfl : x = bn := by omega
              have HN2 := Lib.hid (And.intro HN.out.1 (And.intro HN.out.2.1 (And.intro HN.out.2.2 (show iterP g wo (x - (k + 1)) out = res by have := HP.out; rw [Nat.sub_self] at this; exact this))))
              clear HP HN
              go_wp2
              go_roundw
              case rel => exact ⟨k + 1, out, by omega, by go_num, HN2⟩
              case measure => simp [intOf]; omega
        · obtain rfl : k = bn := by omega
          obtain ⟨hsr, hbr, hol, hir⟩ := HN.out
          rw [Nat.sub_self] at hir
          have hor : out = res := hir
          have HE := Lib.hid (And.intro hsr (And.intro hbr hol))
          have Hor := Lib.hid hor
          clear hsr hbr hol hir hor HN
          go_wp2
          go_ret
          refine ⟨_, rfl, ?_, HbW.out.trans (HE.out.2.1.mono (by have := HzW.out; omega))⟩
          rw [Hres.out, ← Hre.out, ← Hor.out, ← Hbn.out]
          exact full_own HE.out.1 (by simp [boolsV, HE.out.2.2]) (by have := HzW.out; omega) (by unfold maxLen; omega)
end Go.Proofs.Ythhjhdmdfneegaa
namespace Go.Proofs.Ythhjhdmdfneegaa
set_option linter.unusedVariables false
set_option linter.unusedSimpArgs false
open Go.RowKit Go.Shelf

/-- To which one comes from b, without wo. -/
inductive FR (g : List GB) (wo : Int) (b : Nat) : Nat → Prop
  | here : FR g wo b b
  | step (x : Nat) (t : Int) : FR g wo b x → t ∈ tosG g x → t ≠ wo → FR g wo b t.toNat
theorem FR.head {g : List GB} {wo : Int} {x b c : Nat} (ht : (b : Int) ∈ tosG g x) (hw : (b : Int) ≠ wo) (h : FR g wo b c) : FR g wo x c := by
  induction h with
  | here =>
    have := FR.step x (b : Int) (FR.here (g := g) (wo := wo) (b := x)) ht hw
    simpa using this
  | step y t _ h1 h2 ih => exact FR.step y t ih h1 h2
theorem FR.trans {g : List GB} {wo : Int} {a b c : Nat} (h : FR g wo a b) (k : FR g wo b c) : FR g wo a c := by
  induction k with
  | here => exact h
  | step y t _ h1 h2 ih => exact FR.step y t ih h1 h2
/-- Marks: of the same length, and whatever was marked is. -/
def Leq (s s' : List Bool) : Prop := s'.length = s.length ∧ ∀ c, s.getD c false = true → s'.getD c false = true
theorem Leq.refl (s : List Bool) : Leq s s := ⟨rfl, fun _ h => h⟩
theorem Leq.trans {a b c : List Bool} (h : Leq a b) (k : Leq b c) : Leq a c := ⟨k.1.trans h.1, fun x hx => k.2 x (h.2 x hx)⟩
theorem setT_leq (wo : Int) (out : List Bool) (t : Int) : Leq out (setT wo out t) := ⟨setT_len wo out t, fun c h => setT_mono wo out t c h⟩
theorem fold_leq (wo : Int) : ∀ (l : List Int) (out : List Bool), Leq out (l.foldl (setT wo) out)
  | [], out => Leq.refl out
  | t :: l, out => (setT_leq wo out t).trans (fold_leq wo l _)
theorem fold_has (wo : Int) : ∀ (l : List Int) (out : List Bool), ∀ t ∈ l, t ≠ wo → 0 ≤ t → t < out.length → (l.foldl (setT wo) out).getD t.toNat false = true
  | [], _, t, ht, _, _, _ => by cases ht
  | x :: l, out, t, ht, hw, h0, h1 => by
    rw [List.foldl_cons]
    rcases List.mem_cons.1 ht with rfl | ht
    · refine (fold_leq wo l _).2 _ ?_
      unfold setT
      rw [if_neg hw]
      exact set_getD _ _ (by omega)
    · exact fold_has wo l _ t ht hw h0 (by rw [setT_len]; exact h1)
theorem stepX_leq (g : List GB) (wo : Int) (out : List Bool) (x : Nat) : Leq out (stepX g wo out x) := by
  unfold stepX
  split
  · exact fold_leq wo _ _
  · exact Leq.refl _
theorem passR_leq (g : List GB) (wo : Int) : ∀ (k x : Nat) (out : List Bool), Leq out (passR g wo k x out)
  | 0, _, out => Leq.refl out
  | k + 1, x, out => (stepX_leq g wo out x).trans (passR_leq g wo k (x + 1) _)
/-- A pass looks at all that was marked. -/
theorem passR_has (g : List GB) (wo : Int) (hg : tosOk g) : ∀ (k x : Nat) (out : List Bool), out.length = g.length → ∀ y, x ≤ y → y < x + k → out.getD y false = true → ∀ t ∈ tosG g y, t ≠ wo → (passR g wo k x out).getD t.toNat false = true
  | 0, x, out, _, y, h1, h2, _, _, _, _ => by omega
  | k + 1, x, out, hl, y, h1, h2, hy, t, ht, hw => by
    rw [passR]
    have hin := hg y t ht
    by_cases e : y = x
    · subst e
      refine (passR_leq g wo k (y + 1) _).2 _ ?_
      unfold stepX
      rw [hy, if_pos rfl]
      exact fold_has wo _ _ t ht hw hin.1 (by rw [hl]; exact hin.2)
    · exact passR_has g wo hg k (x + 1) _ (by rw [(stepX_leq g wo out x).1]; exact hl) y (by omega) (by omega) ((stepX_leq g wo out x).2 y hy) t ht hw
theorem leq_unseen : ∀ (s s' : List Bool), Leq s s' → unseen s' ≤ unseen s ∧ (unseen s' = unseen s → s' = s)
  | [], s', h => by
    have : s' = [] := List.length_eq_zero_iff.1 h.1
    subst this
    exact ⟨Nat.le_refl _, fun _ => rfl⟩
  | a :: s, [], h => by have := h.1; simp at this
  | a :: s, b :: s', h => by
    have hl : Leq s s' := ⟨by have := h.1; simpa using this, fun c hc => by have := h.2 (c + 1) (by simpa [List.getD] using hc); simpa [List.getD] using this⟩
    obtain ⟨h1, h2⟩ := leq_unseen s s' hl
    have h0 : a = true → b = true := fun e => by have := h.2 0 (by simp [List.getD, e]); simpa [List.getD] using this
    cases a <;> cases b <;> simp [unseen] at h0 h1 h2 ⊢
    · exact ⟨h1, h2⟩
    · have := h1; omega
    · exact ⟨h1, h2⟩
def Clo (g : List GB) (wo : Int) (out : List Bool) : Prop := ∀ y, y < g.length → out.getD y false = true → ∀ t ∈ tosG g y, t ≠ wo → out.getD t.toNat false = true
theorem iterP_leq (g : List GB) (wo : Int) : ∀ (k : Nat) (out : List Bool), Leq out (iterP g wo k out)
  | 0, out => Leq.refl out
  | k + 1, out => (passR_leq g wo _ _ out).trans (iterP_leq g wo k _)
theorem iterP_clo (g : List GB) (wo : Int) (hg : tosOk g) : ∀ (k : Nat) (out : List Bool), out.length = g.length → unseen out < k ∨ Clo g wo out → Clo g wo (iterP g wo k out)
  | 0, out, _, h => by
    rcases h with h | h
    · omega
    · exact h
  | k + 1, out, hl, h => by
    rw [iterP]
    have hle := passR_leq g wo g.length 0 out
    have hlen : (passR g wo g.length 0 out).length = g.length := by rw [hle.1]; exact hl
    refine iterP_clo g wo hg k _ hlen ?_
    obtain ⟨h1, h2⟩ := leq_unseen _ _ hle
    by_cases e : unseen (passR g wo g.length 0 out) = unseen out
    · right
      rw [h2 e]
      intro y hy hm t ht hw
      have := passR_has g wo hg g.length 0 out hl y (Nat.zero_le _) (by omega) hm t ht hw
      rw [h2 e] at this
      exact this
    · rcases h with h | h
      · left; omega
      · right
        intro y hy hm t ht hw
        -- closed already: a pass changes nothing
        exfalso
        refine e ?_
        have hstep : ∀ (l : List Int) (o : List Bool), (∀ t ∈ l, t ≠ wo → o.getD t.toNat false = true) → (∀ t ∈ l, 0 ≤ t ∧ t < o.length) → l.foldl (setT wo) o = o := by
          intro l
          induction l with
          | nil => intro o _ _; rfl
          | cons x l ih =>
            intro o ho hr
            have hx : setT wo o x = o := by
              unfold setT
              split
              · rfl
              · next hne =>
                have h3 := ho x (by simp) hne
                have h4 := hr x (by simp)
                apply List.ext_getElem?
                intro j
                rw [List.getElem?_set]
                by_cases hj : x.toNat = j
                · subst hj
                  have : x.toNat < o.length := by omega
                  rw [if_pos rfl, if_pos this, List.getElem?_eq_getElem this]
                  simp [List.getD, this] at h3
                  rw [h3]
                · rw [if_neg hj]
            rw [List.foldl_cons, hx]
            exact ih o (fun t ht => ho t (List.mem_cons_of_mem _ ht)) (fun t ht => hr t (List.mem_cons_of_mem _ ht))
        have hpass : ∀ (k x : Nat), passR g wo k x out = out := by
          intro k
          induction k with
          | zero => intro x; rfl
          | succ k ih =>
            intro x
            rw [passR]
            have : stepX g wo out x = out := by
              unfold stepX
              split
              · next hq =>
                by_cases hx : x < g.length
                · exact hstep _ _ (fun t ht hw => h x hx hq t ht hw) (fun t ht => by rw [hl]; exact hg x t ht)
                · have : tosG g x = [] := by unfold tosG; rw [List.getElem?_eq_none (by omega)]; rfl
                  rw [this]; rfl
              · rfl
            rw [this]
            exact ih (x + 1)
        rw [hpass]
theorem setT_sound {g : List GB} {wo : Int} {b x : Nat} (hx : FR g wo b x) : ∀ (l : List Int) (out : List Bool), (∀ t ∈ l, t ∈ tosG g x) → (∀ c, out.getD c false = true → FR g wo b c) → ∀ c, (l.foldl (setT wo) out).getD c false = true → FR g wo b c
  | [], _, _, h, c, hc => h c hc
  | t :: l, out, hl, h, c, hc => by
    rw [List.foldl_cons] at hc
    refine setT_sound hx l _ (fun y hy => hl y (List.mem_cons_of_mem _ hy)) (fun d hd => ?_) c hc
    unfold setT at hd
    split at hd
    · exact h d hd
    · next hne =>
      by_cases e : t.toNat = d
      · rw [← e]; exact FR.step x t hx (hl t (by simp)) hne
      · rw [set_getD_ne _ _ _ e] at hd; exact h d hd
theorem passR_sound {g : List GB} {wo : Int} {b : Nat} : ∀ (k x : Nat) (out : List Bool), (∀ c, out.getD c false = true → FR g wo b c) → ∀ c, (passR g wo k x out).getD c false = true → FR g wo b c
  | 0, _, _, h => h
  | k + 1, x, out, h => by
    rw [passR]
    refine passR_sound k (x + 1) _ (fun c hc => ?_)
    unfold stepX at hc
    split at hc
    · next hq => exact setT_sound (h x hq) _ _ (fun t ht => ht) h c hc
    · exact h c hc
theorem iterP_sound {g : List GB} {wo : Int} {b : Nat} : ∀ (k : Nat) (out : List Bool), (∀ c, out.getD c false = true → FR g wo b c) → ∀ c, (iterP g wo k out).getD c false = true → FR g wo b c
  | 0, _, h => h
  | k + 1, out, h => by rw [iterP]; exact iterP_sound k _ (passR_sound _ _ _ h)
theorem fromP_spec {g : List GB} (hg : tosOk g) {b : Nat} {wo : Int} (hb : b < g.length) (hw : (b : Int) ≠ wo) (c : Nat) : (fromP g (b : Int) wo).getD c false = true ↔ FR g wo b c := by
  unfold fromP
  rw [if_neg (by omega), Int.toNat_natCast]
  have hl : ((List.replicate g.length false).set b true).length = g.length := by simp
  have hbs : ((List.replicate g.length false).set b true).getD b false = true := set_getD _ _ (by simpa using hb)
  constructor
  · refine iterP_sound _ _ (fun c hc => ?_) c
    by_cases e : b = c
    · subst e; exact FR.here
    · rw [set_getD_ne _ _ _ e] at hc
      have : (List.replicate g.length false).getD c false = false := by simp [List.getD, List.getElem?_replicate]; split <;> rfl
      rw [this] at hc; cases hc
  · intro h
    have hun : unseen ((List.replicate g.length false).set b true) < g.length := by
      have h1 := unseen_set (List.replicate g.length false) b (by simpa using hb) (by simp [List.getD, hb])
      have h2 := unseen_le (List.replicate g.length false)
      simp at h2
      omega
    have hc := iterP_clo g wo hg g.length _ hl (.inl hun)
    have hle := iterP_leq g wo g.length ((List.replicate g.length false).set b true)
    induction h with
    | here => exact hle.2 b hbs
    | step x t hx ht hne ih =>
      have hxl : x < g.length := by
        rcases Nat.lt_or_ge x g.length with h | h
        · exact h
        · have : tosG g x = [] := by unfold tosG; rw [List.getElem?_eq_none h]; rfl
          rw [this] at ht; cases ht
      exact hc x hxl ih t ht hne
end Go.Proofs.Ythhjhdmdfneegaa
