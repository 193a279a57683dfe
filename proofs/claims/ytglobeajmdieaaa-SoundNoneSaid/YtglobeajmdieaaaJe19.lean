/-
  slices.AppendSeq and slices.Collect over an iterator that keeps a state of its own.
  sources over plain data: it ends; what it tells; a way back stands in later worlds.
  graph.Reach.
-/
import Derived.Test.YtglobeajmdieaaaJe18
import Derived.Maps.OwnIn
namespace Go.Proofs.Ytglobeajmdieaaa
set_option linter.unusedVariables false
set_option linter.unusedSimpArgs false
open Go.RowKit Go.Shelf

attribute [local go_sem] Oper.semAt_some

end Go.Proofs.Ytglobeajmdieaaa
namespace Go.Proofs.Ytglobeajmdieaaa
set_option linter.unusedVariables false
set_option linter.unusedSimpArgs false
open Go.RowKit Go.Shelf

theorem BackAt.later {P : Program} {bv : Value} {bk : Nat → List Int} {n : Nat} {S0 : Nat → Prop} {W W' : World} (h : BackAt P bv bk n S0 W) (hz : W.heap.size ≤ W'.heap.size) (hs : ∀ k, S0 k → W'.heap[k]? = W.heap[k]?) : BackAt P bv bk n S0 W' := by
  obtain ⟨gf, lb, h1, h2, h3⟩ := h
  exact ⟨gf, lb, h1, h2, fun W1 b hb hz1 hs1 => h3 W1 b hb (Nat.le_trans hz hz1) (fun k hk => (hs1 k hk).trans (hs k hk))⟩

theorem enterP_len (b : Nat) (s : List Bool × List Nat) : (enterP b s).1.length = s.1.length := by
  unfold enterP
  split <;> simp
theorem enterP_cnt (b : Nat) (s : List Bool × List Nat) (hb : b < s.1.length) : 2 * unseen (enterP b s).1 + (enterP b s).2.length ≤ 2 * unseen s.1 + s.2.length := by
  unfold enterP
  cases h : s.1.getD b false with
  | true => simp [h]
  | false =>
    have := unseen_set s.1 b hb h
    simp [h]
    omega
theorem fold_len : ∀ (l : List Int) (s : List Bool × List Nat), (l.foldl (fun s x => enterP x.toNat s) s).1.length = s.1.length
  | [], s => rfl
  | x :: l, s => by
    rw [List.foldl_cons, fold_len l, enterP_len]
theorem fold_cnt (n : Nat) : ∀ (l : List Int) (s : List Bool × List Nat), s.1.length = n → (∀ x ∈ l, 0 ≤ x ∧ x < n) → 2 * unseen (l.foldl (fun s x => enterP x.toNat s) s).1 + (l.foldl (fun s x => enterP x.toNat s) s).2.length ≤ 2 * unseen s.1 + s.2.length
  | [], s, _, _ => Nat.le_refl _
  | x :: l, s, hs, hl => by
    have hx := hl x (by simp)
    have h1 := fold_cnt n l (enterP x.toNat s) (by rw [enterP_len]; exact hs) (fun y hy => hl y (List.mem_cons_of_mem _ hy))
    have h2 := enterP_cnt x.toNat s (by omega)
    rw [List.foldl_cons]
    omega
theorem srcRun_total (bk : Nat → List Int) (n : Nat) (hbk : ∀ b, b < n → ∀ x ∈ bk b, 0 ≤ x ∧ x < n) : ∀ (k : Nat) (sh : List Bool) (left o : List Nat), sh.length = n → (∀ b ∈ left, b < n) → 2 * unseen sh + left.length ≤ k → ∃ r, srcRun bk k sh left o = some r
  | k, sh, [], o, _, _, _ => ⟨(sh, o), by cases k <;> rfl⟩
  | 0, sh, b :: left, o, _, _, h => by simp at h
  | k + 1, sh, b :: left, o, hs, hl, h => by
    unfold srcRun
    have hb := hl b (by simp)
    have h1 := fold_cnt n (bk b) (sh, left) hs (hbk b hb)
    refine srcRun_total bk n hbk k _ _ _ (by rw [fold_len]; exact hs) (foldl_enter_lt n (bk b) (sh, left) (hbk b hb) (fun c hc => hl c (List.mem_cons_of_mem _ hc))) ?_
    simp at h h1
    omega
/-- What sources shuts and tells. -/
def srcP (bk : Nat → List Int) (n : Nat) (sh : List Bool) (b : Nat) : List Bool × List Nat := (srcRun bk (2 * n + 2) (enterP b (sh, [])).1 (enterP b (sh, [])).2 []).getD (sh, [])
theorem srcP_run {bk : Nat → List Int} {n : Nat} {sh : List Bool} {b : Nat} (hbk : ∀ b, b < n → ∀ x ∈ bk b, 0 ≤ x ∧ x < n) (hs : sh.length = n) (hb : b < n) : srcRun bk (2 * n + 2) (enterP b (sh, [])).1 (enterP b (sh, [])).2 [] = some (srcP bk n sh b) := by
  have h1 := enterP_cnt b (sh, []) (by simpa [hs] using hb)
  have h2 := unseen_le sh
  obtain ⟨r, hr⟩ := srcRun_total bk n hbk (2 * n + 2) (enterP b (sh, [])).1 (enterP b (sh, [])).2 [] (by rw [enterP_len]; exact hs) (fun c hc => by
    unfold enterP at hc
    split at hc
    · cases hc
    · simp at hc; omega) (by simp at h1; omega)
  unfold srcP
  rw [hr]
  rfl

/-- From which one comes, where nothing is shut. -/
inductive RB (bk : Nat → List Int) (sh : List Bool) (to_ : Nat) : Nat → Prop
  | here : sh.getD to_ false = false → RB bk sh to_ to_
  | back (b : Nat) (x : Int) : RB bk sh to_ b → x ∈ bk b → sh.getD x.toNat false = false → RB bk sh to_ x.toNat
/-- While it goes on: what is shut is what was, what waits, and what was told; all that was told had its ways looked at. -/
structure SI (bk : Nat → List Int) (sh0 : List Bool) (to_ n : Nat) (sh : List Bool) (left o done : List Nat) : Prop where
  len : sh.length = sh0.length
  n0 : sh0.length = n
  all : ∀ b, sh.getD b false = true ↔ (sh0.getD b false = true ∨ b ∈ left ∨ b ∈ o)
  rb : ∀ b, (b ∈ left ∨ b ∈ o) → RB bk sh0 to_ b
  nd : (left ++ o).Nodup
  new : ∀ b, (b ∈ left ∨ b ∈ o) → sh0.getD b false = false ∧ b < n
  cl : ∀ b ∈ done, ∀ x ∈ bk b, sh.getD x.toNat false = true
theorem getD_set (s : List Bool) (b c : Nat) (hb : b < s.length) : (s.set b true).getD c false = true ↔ (s.getD c false = true ∨ c = b) := by
  by_cases e : b = c
  · subst e
    exact ⟨fun _ => .inr rfl, fun _ => set_getD s b hb⟩
  · rw [set_getD_ne s b c e]
    constructor
    · exact .inl
    · rintro (h | h)
      · exact h
      · exact absurd h.symm e
theorem SI.enter {bk : Nat → List Int} {sh0 : List Bool} {to_ n x : Nat} {sh : List Bool} {left o done : List Nat} (h : SI bk sh0 to_ n sh left o done) (hx : x < n) (hr : sh0.getD x false = false → RB bk sh0 to_ x) :
    SI bk sh0 to_ n (enterP x (sh, left)).1 (enterP x (sh, left)).2 o done ∧ (enterP x (sh, left)).1.getD x false = true ∧ ∀ c, sh.getD c false = true → (enterP x (sh, left)).1.getD c false = true := by
  have hxs : x < sh.length := by rw [h.len, h.n0]; exact hx
  unfold enterP
  cases hq : sh.getD x false with
  | true => simp only [hq, if_true]; exact ⟨h, trivial, fun c hc => hc⟩
  | false =>
    simp only [hq, Bool.false_eq_true, if_false]
    have hq0 : sh0.getD x false = false := by
      cases h0 : sh0.getD x false with
      | false => rfl
      | true => have := (h.all x).2 (.inl h0); rw [hq] at this; cases this
    have hxl : x ∉ left := fun e => by have := (h.all x).2 (.inr (.inl e)); rw [hq] at this; cases this
    have hxo : x ∉ o := fun e => by have := (h.all x).2 (.inr (.inr e)); rw [hq] at this; cases this
    refine ⟨⟨by simpa using h.len, h.n0, fun b => ?_, fun b hb => ?_, ?_, fun b hb => ?_, fun b hb y hy => (getD_set sh x _ hxs).2 (.inl (h.cl b hb y hy))⟩, set_getD sh x hxs, fun c hc => (getD_set sh x c hxs).2 (.inl hc)⟩
    · rw [getD_set sh x b hxs, h.all b, List.mem_cons]
      constructor
      · rintro ((q | q | q) | q)
        · exact .inl q
        · exact .inr (.inl (.inr q))
        · exact .inr (.inr q)
        · exact .inr (.inl (.inl q))
      · rintro (q | (q | q) | q)
        · exact .inl (.inl q)
        · exact .inr q
        · exact .inl (.inr (.inl q))
        · exact .inl (.inr (.inr q))
    · rcases hb with hb | hb
      · rcases List.mem_cons.1 hb with rfl | hb
        · exact hr hq0
        · exact h.rb b (.inl hb)
      · exact h.rb b (.inr hb)
    · rw [List.cons_append, List.nodup_cons]
      exact ⟨fun e => by
        rcases List.mem_append.1 e with e | e
        · exact hxl e
        · exact hxo e, h.nd⟩
    · rcases hb with hb | hb
      · rcases List.mem_cons.1 hb with rfl | hb
        · exact ⟨hq0, hx⟩
        · exact h.new b (.inl hb)
      · exact h.new b (.inr hb)
theorem SI.fold {bk : Nat → List Int} {sh0 : List Bool} {to_ n b : Nat} {o done : List Nat} (hrb : RB bk sh0 to_ b) : ∀ (l : List Int) (s : List Bool × List Nat), SI bk sh0 to_ n s.1 s.2 o done → (∀ x ∈ l, 0 ≤ x ∧ x < n) → (∀ x ∈ l, x ∈ bk b) →
    SI bk sh0 to_ n (l.foldl (fun s x => enterP x.toNat s) s).1 (l.foldl (fun s x => enterP x.toNat s) s).2 o done ∧ (∀ x ∈ l, (l.foldl (fun s x => enterP x.toNat s) s).1.getD x.toNat false = true) ∧ ∀ c, s.1.getD c false = true → (l.foldl (fun s x => enterP x.toNat s) s).1.getD c false = true
  | [], s, h, _, _ => ⟨h, (fun x hx => by cases hx), fun c hc => hc⟩
  | x :: l, s, h, hl, hm => by
    have hx := hl x (by simp)
    obtain ⟨h1, h2, h3⟩ := h.enter (x := x.toNat) (by omega) (fun hq => RB.back b x hrb (hm x (by simp)) hq)
    obtain ⟨k1, k2, k3⟩ := SI.fold hrb l (enterP x.toNat s) h1 (fun y hy => hl y (List.mem_cons_of_mem _ hy)) (fun y hy => hm y (List.mem_cons_of_mem _ hy))
    rw [List.foldl_cons]
    refine ⟨k1, fun y hy => ?_, fun c hc => k3 c (h3 c hc)⟩
    rcases List.mem_cons.1 hy with rfl | hy
    · exact k3 _ h2
    · exact k2 y hy
theorem srcRun_spec (bk : Nat → List Int) (n : Nat) (hbk : ∀ b, b < n → ∀ x ∈ bk b, 0 ≤ x ∧ x < n) (sh0 : List Bool) (to_ : Nat) : ∀ (k : Nat) (sh : List Bool) (left o : List Nat) (sh' : List Bool) (xs : List Nat), srcRun bk k sh left o = some (sh', xs) → SI bk sh0 to_ n sh left o o → SI bk sh0 to_ n sh' [] xs xs
  | k, sh, [], o, sh', xs, h, hs => by
    have : (sh, o) = (sh', xs) := by cases k <;> simpa [srcRun] using h
    injection this with e1 e2
    subst e1 e2
    exact hs
  | 0, sh, b :: left, o, sh', xs, h, _ => by simp [srcRun] at h
  | k + 1, sh, b :: left, o, sh', xs, h, hs => by
    unfold srcRun at h
    have hb := (hs.new b (.inl (by simp))).2
    have hrb := hs.rb b (.inl (by simp))
    have h0 : SI bk sh0 to_ n sh left (o ++ [b]) o := by
      refine ⟨hs.len, hs.n0, fun c => ?_, fun c hc => hs.rb c ?_, ?_, fun c hc => hs.new c ?_, hs.cl⟩
      · rw [hs.all c]
        simp only [List.mem_cons, List.mem_append, List.not_mem_nil, or_false]
        constructor
        · rintro (q | (q | q) | q)
          · exact .inl q
          · exact .inr (.inr (.inr q))
          · exact .inr (.inl q)
          · exact .inr (.inr (.inl q))
        · rintro (q | q | q | q)
          · exact .inl q
          · exact .inr (.inl (.inr q))
          · exact .inr (.inr q)
          · exact .inr (.inl (.inl q))
      · simp only [List.mem_cons, List.mem_append, List.not_mem_nil, or_false] at hc ⊢
        rcases hc with q | q | q
        · exact .inl (.inr q)
        · exact .inr q
        · exact .inl (.inl q)
      · have := hs.nd
        rw [List.cons_append, List.nodup_cons] at this
        rw [← List.append_assoc, List.nodup_append]
        refine ⟨this.2, by simp, fun a ha c hc => ?_⟩
        simp at hc
        subst hc
        intro e
        subst e
        exact this.1 ha
      · simp only [List.mem_cons, List.mem_append, List.not_mem_nil, or_false] at hc ⊢
        rcases hc with q | q | q
        · exact .inl (.inr q)
        · exact .inr q
        · exact .inl (.inl q)
    obtain ⟨k1, k2, k3⟩ := SI.fold hrb (bk b) (sh, left) h0 (hbk b hb) (fun x hx => hx)
    refine srcRun_spec bk n hbk sh0 to_ k _ _ _ sh' xs h ⟨k1.len, k1.n0, k1.all, k1.rb, k1.nd, k1.new, fun c hc x hx => ?_⟩
    rcases List.mem_append.1 hc with hc | hc
    · exact k1.cl c hc x hx
    · simp at hc
      subst hc
      exact k2 x hx
/-- What sources tells is from where one comes; what is shut then is what was, and that. -/
theorem srcP_spec {bk : Nat → List Int} {n : Nat} {sh : List Bool} {b : Nat} (hbk : ∀ b, b < n → ∀ x ∈ bk b, 0 ≤ x ∧ x < n) (hs : sh.length = n) (hb : b < n) :
    (∀ c, c ∈ (srcP bk n sh b).2 ↔ RB bk sh b c) ∧ (∀ c, (srcP bk n sh b).1.getD c false = true ↔ (sh.getD c false = true ∨ c ∈ (srcP bk n sh b).2)) ∧ (srcP bk n sh b).2.Nodup ∧ (srcP bk n sh b).1.length = n ∧ ∀ c ∈ (srcP bk n sh b).2, c < n := by
  have hr := srcP_run hbk hs hb
  have h0 : SI bk sh b n sh [] [] [] := ⟨rfl, hs, fun c => by simp, fun c hc => by simp at hc, by simp, fun c hc => by simp at hc, fun c hc => by cases hc⟩
  obtain ⟨h1, h2, h3⟩ := h0.enter (x := b) hb (fun hq => RB.here hq)
  have h4 := srcRun_spec bk n hbk sh b (2 * n + 2) _ _ _ (srcP bk n sh b).1 (srcP bk n sh b).2 hr h1
  refine ⟨fun c => ⟨fun hc => h4.rb c (.inr hc), fun hc => ?_⟩, fun c => by rw [h4.all c]; simp, by simpa using h4.nd, by rw [h4.len, h4.n0], fun c hc => (h4.new c (.inr hc)).2⟩
  induction hc with
  | here hq =>
    have hin : (srcP bk n sh b).1.getD b false = true := by
      have : ∀ (k : Nat) (sh1 : List Bool) (left o : List Nat) (r : List Bool × List Nat), srcRun bk k sh1 left o = some r → sh1.getD b false = true → r.1.getD b false = true := by
        intro k
        induction k with
        | zero =>
          intro sh1 left o r h hq
          cases left with
          | nil => simp [srcRun] at h; rw [← h]; exact hq
          | cons c left => simp [srcRun] at h
        | succ k ih =>
          intro sh1 left o r h hq
          cases left with
          | nil => simp [srcRun] at h; rw [← h]; exact hq
          | cons c left =>
            unfold srcRun at h
            refine ih _ _ _ _ h ?_
            have hmono : ∀ (l : List Int) (s : List Bool × List Nat), s.1.getD b false = true → (l.foldl (fun s x => enterP x.toNat s) s).1.getD b false = true := by
              intro l
              induction l with
              | nil => exact fun s h => h
              | cons x l ihl =>
                intro s h
                rw [List.foldl_cons]
                refine ihl _ ?_
                unfold enterP
                split
                · exact h
                · by_cases e : x.toNat = b
                  · by_cases hl : x.toNat < s.1.length
                    · rw [e]; exact set_getD _ _ (by omega)
                    · rw [List.set_eq_of_length_le (by omega)]; exact h
                  · show (s.1.set x.toNat true).getD b false = true
                    rw [set_getD_ne _ _ _ e]; exact h
            exact hmono _ _ hq
      exact this _ _ _ _ _ hr h2
    rcases (h4.all b).1 hin with q | q | q
    · rw [hq] at q; cases q
    · cases q
    · exact q
  | back c x _ hx hq ih =>
    have := h4.cl c ih x hx
    rcases (h4.all _).1 this with q | q | q
    · rw [hq] at q; cases q
    · cases q
    · exact q
end Go.Proofs.Ytglobeajmdieaaa
namespace Go.Proofs.Ytglobeajmdieaaa
set_option linter.unusedVariables false
set_option linter.unusedSimpArgs false
open Go.RowKit Go.Shelf

attribute [local go_sem] Oper.semAt_some

/-- The same, where the loop's variable is slot q. -/
theorem wp_range_sep_at {P : Program} {α : Type} {g : Operand} {p q : Tmp} {assign body : Code} {Q : Exit → Act → World → Prop} {a : Act} {w : World} {gf : Nat} {lb : Array Value}
    (hg : a.eval g = .func (.func gf) #[] lb) (eg : ∀ args w, (callFunc gf args).run P w = .ok (.enter gf args) w)
    {enc : α → Value} {xs : List α} {S Wr : Nat → Prop} {Post : World → Prop} (hseq : ∀ W1, Below w.heap.size w W1 → SepGives P gf lb enc xs S Wr Post W1)
    (hPost : ∀ A B : World, Post A → A.heap.size ≤ B.heap.size → (∀ k, k < w.heap.size → B.heap[k]? = A.heap[k]?) → Post B)
    (I : List α → (Nat → Prop) → World → Prop) (F0 : Nat → Prop)
    (hIoff : ∀ pre F A B, I pre F A → StepOff F A B → I pre F B) (hIlt : ∀ pre F A, I pre F A → ∀ k, F k → k < A.heap.size)
    (hF0 : ∀ k, F0 k → ¬ S k) (hS : ∀ k, S k → k < w.heap.size) (h0 : I [] F0 w)
    (hassign : ∀ (l : Nat) (x : α) (W : World) (K : Act → World → Prop), K { tmps := (a.tmps.setIfInBounds p (enc x)).setIfInBounds q (enc x), defers := [] } W →
      assign.wpIn (Fence.wide.inRound l) 0 P (Exit.then K (fun _ _ _ => False)) { tmps := a.tmps.setIfInBounds p (enc x), defers := [] } W)
    (hbody : ∀ (l : Nat) (pre : List α) (x : α) (F : Nat → Prop) (A : World), I pre F A → (pre ++ [x]) <+: xs → body.wpIn (Fence.wide.inRound l) 0 P (fun e a' B => e = .normal ∧ ∃ F', I (pre ++ [x]) F' B ∧ StepOn F F' A B) { tmps := (a.tmps.setIfInBounds p (enc x)).setIfInBounds q (enc x), defers := [] } A)
    (hdone : ∀ (D : Nat) (F' : Nat → Prop) (W' : World), I xs F' W' → Post W' → Framed F0 F' Wr w W' → W'.heap[D]? = some (.deferred (some [])) → w.heap.size ≤ D → ¬ F' D → Q .normal { a with defers := { target := .collected D, args := #[] } :: a.defers } W') :
    (Code.rangeFunc g #[p] assign body).wp P Q a w :=
  wp_range_sep hg eg hseq rfl hPost I F0 hIoff hIlt hF0 hS h0 (fun x => { tmps := (a.tmps.setIfInBounds p (enc x)).setIfInBounds q (enc x), defers := [] }) (fun l x W K hK => by
    have := hassign l x W K hK
    simpa using this) hbody hdone
theorem own_full {w : World} {base : Nat} {T : TypeId} {g n : Nat} {xs : List Value} (h : w.ownsRow base T 1 (.slice (some ⟨g, 0, none⟩) n n) n xs) : w.heap[g]? = some (.cells xs.toArray T (0, 0)) := by
  rcases h.2 with ⟨h', _⟩ | ⟨g', cap, cur, h', hb, hg, hnc, hcm, hcs, ht⟩
  · simp at h'
  · simp only [Value.slice.injEq, Option.some.injEq, Addr.mk.injEq, and_true, true_and] at h'
    obtain ⟨rfl, rfl⟩ := h'
    rw [hg, ← ht, Nat.mul_one, List.take_of_length_le (by rw [Array.length_toList, hcs]; omega)]
theorem full_own {w : World} {base : Nat} {T : TypeId} {g n : Nat} {xs : List Value} (h : w.heap[g]? = some (.cells xs.toArray T (0, 0))) (hl : xs.length = n) (hb : base ≤ g) (hm : n ≤ maxLen) : w.ownsRow base T 1 (.slice (some ⟨g, 0, none⟩) n n) n xs :=
  ⟨by omega, .inr ⟨g, n, xs.toArray, rfl, hb, h, Nat.le_refl _, hm, by simp; omega, by rw [Nat.mul_one]; simp; rw [← hl, List.take_length]⟩⟩
def markP (l : List Bool) (xs : List Nat) : List Bool := xs.foldl (fun s b => s.set b true) l
theorem markP_len : ∀ (xs : List Nat) (l : List Bool), (markP l xs).length = l.length
  | [], _ => rfl
  | x :: xs, l => by unfold markP; rw [List.foldl_cons]; have := markP_len xs (l.set x true); unfold markP at this; rw [this]; simp
theorem markP_snoc (l : List Bool) (xs : List Nat) (b : Nat) : markP l (xs ++ [b]) = (markP l xs).set b true := by simp [markP]
/-- The ways back of a function by Preds. -/
def bkG (g : List GB) (b : Nat) : List Int := ((g[b]?.map GB.preds).getD []).filter (hasG g.length)
theorem bkG_in (g : List GB) : ∀ b, b < g.length → ∀ x ∈ bkG g b, 0 ≤ x ∧ x < g.length := fun b _ x hx => by
  unfold bkG at hx
  exact of_decide_eq_true (List.mem_filter.1 hx).2
def shutG (n : Nat) (without : Int) : List Bool := if hasG n without then (List.replicate n false).set without.toNat true else List.replicate n false
theorem shutG_len (n : Nat) (without : Int) : (shutG n without).length = n := by unfold shutG; split <;> simp
def reachP (g : List GB) (to_ without : Int) : List Bool := if wholeG g && hasG g.length to_ then markP (List.replicate g.length false) (srcP (bkG g) g.length (shutG g.length without) to_.toNat).2 else List.replicate g.length false

end Go.Proofs.Ytglobeajmdieaaa
