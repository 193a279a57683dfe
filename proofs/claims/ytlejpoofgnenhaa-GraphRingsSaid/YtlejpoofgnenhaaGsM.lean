/-
  How blocks are left, over plain data: what is left ahead of what.
-/
import Derived.Test.YtlejpoofgnenhaaGsE
namespace Go.Proofs.Ytlejpoofgnenhaa
open Go.RowKit Go.Shelf
set_option linter.unusedVariables false
set_option linter.unusedSimpArgs false

/-- One comes from a to b. -/
abbrev RR (g : List GB) (a b : Nat) : Prop := FR g (-1) a b
theorem rr_edge {g : List GB} (hg : tosOk g) {a : Nat} {t : Int} (ht : t ∈ tosG g a) : RR g a t.toNat := FR.step a t FR.here ht (by have := hg a t ht; omega)
/-- While blocks are left: what is left was entered, what it leads to too; what it leads to without a way back is left ahead of it. -/
structure DI (g : List GB) (s : List Bool) (o : List Nat) : Prop where
  len : s.length = g.length
  sub : ∀ c ∈ o, s.getD c false = true
  cl : ∀ u ∈ o, ∀ t ∈ tosG g u, s.getD t.toNat false = true
  q : ∀ l1 u l2, o = l1 ++ u :: l2 → ∀ t ∈ tosG g u, ¬ RR g t.toNat u → ∀ z, RR g t.toNat z → z ∈ l1
  nd : o.Nodup
/-- What one walk does. -/
structure DO (g : List GB) (b : Nat) (s : List Bool) (o : List Nat) (s' : List Bool) (o' : List Nat) : Prop where
  di : DI g s' o'
  mono : ∀ c, s.getD c false = true → s'.getD c false = true
  fin : ∀ c, s'.getD c false = true → c ∈ o' ∨ s.getD c false = true
  sup : ∀ c ∈ o, c ∈ o'
  new : ∀ c ∈ o', c ∈ o ∨ (s.getD c false = false ∧ RR g b c)
theorem DI.mark {g : List GB} {s : List Bool} {o : List Nat} {b : Nat} (h : DI g s o) (hb : b < g.length) : DI g (s.set b true) o :=
  have hs : b < s.length := by rw [h.len]; exact hb
  ⟨by simpa using h.len, fun c hc => (getD_set s b c hs).2 (.inl (h.sub c hc)), fun u hu t ht => (getD_set s b _ hs).2 (.inl (h.cl u hu t ht)), h.q, h.nd⟩
theorem go_di {g : List GB} (hg : tosOk g) {k : Nat} (ih : ∀ (b : Nat) (s : List Bool) (o : List Nat) (s' : List Bool) (o' : List Nat), walkP g k b s o = some (s', o') → DI g s o → (∀ c, s.getD c false = true → c ∈ o ∨ RR g c b) → b < g.length → s.getD b false = false → DO g b s o s' o' ∧ s'.getD b false = true) (b : Nat) :
    ∀ (ts : List Int) (s : List Bool) (o : List Nat) (s1 : List Bool) (o1 : List Nat), goP (walkP g k) ts s o = some (s1, o1) → DI g s o → (∀ t ∈ ts, t ∈ tosG g b) → (∀ c, s.getD c false = true → c ∈ o ∨ RR g c b) → DO g b s o s1 o1 ∧ ∀ t ∈ ts, s1.getD t.toNat false = true
  | [], s, o, s1, o1, h, hd, _, _ => by
    simp [goP] at h
    obtain ⟨rfl, rfl⟩ := h
    exact ⟨⟨hd, fun c hc => hc, fun c hc => .inr hc, fun c hc => hc, fun c hc => .inl hc⟩, fun t ht => by cases ht⟩
  | t :: ts, s, o, s1, o1, h, hd, ht, hgr => by
    unfold goP at h
    have ht0 := ht t (by simp)
    have hin := hg b t ht0
    have hts : ∀ x ∈ ts, x ∈ tosG g b := fun x hx => ht x (List.mem_cons_of_mem _ hx)
    cases hq : s.getD t.toNat false with
    | true =>
      rw [hq, if_pos rfl] at h
      obtain ⟨h1, h2⟩ := go_di hg ih b ts s o s1 o1 h hd hts hgr
      refine ⟨h1, fun x hx => ?_⟩
      rcases List.mem_cons.1 hx with rfl | hx
      · exact h1.mono _ hq
      · exact h2 x hx
    | false =>
      rw [hq, if_neg (by simp)] at h
      cases hw : walkP g k t.toNat s o with
      | none => rw [hw] at h; cases h
      | some r =>
        obtain ⟨s2, o2⟩ := r
        rw [hw] at h
        have he := rr_edge hg ht0
        obtain ⟨k1, k2⟩ := ih t.toNat s o s2 o2 hw hd (fun c hc => (hgr c hc).imp id (fun h => h.trans he)) (by omega) hq
        obtain ⟨h1, h2⟩ := go_di hg ih b ts s2 o2 s1 o1 h k1.di hts (fun c hc => by
          rcases k1.fin c hc with h | h
          · exact .inl h
          · exact (hgr c h).imp (k1.sup c) id)
        refine ⟨⟨h1.di, fun c hc => h1.mono c (k1.mono c hc), fun c hc => ?_, fun c hc => h1.sup c (k1.sup c hc), fun c hc => ?_⟩, fun x hx => ?_⟩
        · rcases h1.fin c hc with h | h
          · exact .inl h
          · exact (k1.fin c h).imp (h1.sup c) id
        · rcases h1.new c hc with h | ⟨h, hr⟩
          · rcases k1.new c h with h | ⟨h, hr⟩
            · exact .inl h
            · exact .inr ⟨h, he.trans hr⟩
          · refine .inr ⟨?_, hr⟩
            cases e : s.getD c false with
            | false => rfl
            | true => have := k1.mono c e; rw [h] at this; cases this
        · rcases List.mem_cons.1 hx with rfl | hx
          · exact h1.mono _ k2
          · exact h2 x hx
theorem walk_di {g : List GB} (hg : tosOk g) : ∀ (k b : Nat) (s : List Bool) (o : List Nat) (s' : List Bool) (o' : List Nat), walkP g k b s o = some (s', o') → DI g s o → (∀ c, s.getD c false = true → c ∈ o ∨ RR g c b) → b < g.length → s.getD b false = false → DO g b s o s' o' ∧ s'.getD b false = true := by
  intro k
  induction k with
  | zero => intro b s o s' o' h; simp [walkP] at h
  | succ k ih =>
    intro b s o s' o' h hd hgr hb hbs
    unfold walkP at h
    cases hw : goP (walkP g k) (tosG g b) (s.set b true) o with
    | none => rw [hw] at h; cases h
    | some r =>
      obtain ⟨s1, o1⟩ := r
      rw [hw] at h
      simp only [Option.some.injEq, Prod.mk.injEq] at h
      obtain ⟨rfl, rfl⟩ := h
      have hsl : b < s.length := by rw [hd.len]; exact hb
      have hset : ∀ c, (s.set b true).getD c false = true ↔ (s.getD c false = true ∨ c = b) := fun c => getD_set s b c hsl
      have hgr2 : ∀ c, (s.set b true).getD c false = true → c ∈ o ∨ RR g c b := fun c hc => by
        rcases (hset c).1 hc with h | rfl
        · exact hgr c h
        · exact .inr FR.here
      obtain ⟨h1, h2⟩ := go_di hg ih b (tosG g b) (s.set b true) o s1 o1 hw (hd.mark hb) (fun t ht => ht) hgr2
      have hbt : s1.getD b false = true := h1.mono b ((hset b).2 (.inr rfl))
      have hseen : ∀ c, s1.getD c false = true → c ∈ o1 ∨ RR g c b := fun c hc => by
        rcases h1.fin c hc with h | h
        · exact .inl h
        · exact (hgr2 c h).imp (h1.sup c) id
      have hbo : b ∉ o1 := fun e => by
        rcases h1.new b e with h | ⟨h, _⟩
        · have := hd.sub b h; rw [hbs] at this; cases this
        · have := (hset b).2 (.inr rfl); rw [h] at this; cases this
      have hbefore : ∀ t ∈ tosG g b, ¬ RR g t.toNat b → ∀ z, RR g t.toNat z → z ∈ o1 := by
        intro t ht hn z hz
        induction hz with
        | here => exact (hseen _ (h2 t ht)).resolve_right hn
        | step x y hx hy hw ihx =>
          rcases hseen _ (h1.di.cl x ihx y hy) with h | h
          · exact h
          · exact absurd ((FR.step x y hx hy hw).trans h) hn
      refine ⟨⟨⟨h1.di.len, fun c hc => ?_, fun u hu => ?_, ?_, ?_⟩, fun c hc => h1.mono c ((hset c).2 (.inl hc)), fun c hc => ?_, fun c hc => List.mem_append_left _ (h1.sup c hc), fun c hc => ?_⟩, hbt⟩
      · rcases List.mem_append.1 hc with h | h
        · exact h1.di.sub c h
        · simp at h; subst h; exact hbt
      · rcases List.mem_append.1 hu with h | h
        · exact h1.di.cl u h
        · simp at h; subst h; exact h2
      · intro l1 u l2 e
        rcases List.eq_nil_or_concat l2 with rfl | ⟨l3, x, rfl⟩
        · obtain ⟨e1, e2⟩ := List.append_inj' e rfl
          injection e2 with e2 _
          subst e1 e2
          exact hbefore
        · have e0 : o1 ++ [b] = (l1 ++ u :: l3) ++ [x] := by rw [e]; simp
          obtain ⟨e1, e2⟩ := List.append_inj' e0 rfl
          exact h1.di.q l1 u l3 e1
      · rw [List.nodup_append]
        refine ⟨h1.di.nd, by simp, fun a ha c hc => ?_⟩
        simp at hc
        subst hc
        exact fun e => hbo (e ▸ ha)
      · rcases h1.fin c hc with h | h
        · exact .inl (List.mem_append_left _ h)
        · rcases (hset c).1 h with h | rfl
          · exact .inr h
          · exact .inl (by simp)
      · rcases List.mem_append.1 hc with h | h
        · rcases h1.new c h with h | ⟨h, hr⟩
          · exact .inl h
          · refine .inr ⟨?_, hr⟩
            cases e : s.getD c false with
            | false => rfl
            | true => have := (hset c).2 (.inl e); rw [h] at this; cases this
        · simp at h; subst h; exact .inr ⟨hbs, FR.here⟩
/-- The order of what is reached: each block that leads on, and to which none leads back, stands ahead. -/
theorem order_q {g : List GB} (hw : wholeG g = true) : (∀ c, c ∈ orderP g ↔ RR g 0 c) ∧ ∀ pre r post, orderP g = pre ++ r :: post → ∀ x ∈ orderP g, ∀ t ∈ tosG g x, RR g t.toNat r → ¬ RR g t.toNat x → x ∈ pre := by
  obtain ⟨s', h1, -⟩ := postP_run hw
  obtain ⟨hp, -⟩ := wholeG_all hw
  have hg := tosOk_of hw
  have hno : ∀ c, (List.replicate g.length false).getD c false = false := rep_getD g.length
  obtain ⟨h2, h3⟩ := walk_di hg _ _ _ _ _ _ h1 ⟨by simp, fun c hc => by simp at hc, fun c hc => by simp at hc, fun l1 u l2 e => by simp at e, by simp⟩ (fun c hc => by rw [hno] at hc; cases hc) hp (hno 0)
  have hin : ∀ c, s'.getD c false = true → c ∈ postP g := fun c hc => by
    rcases h2.fin c hc with h | h
    · exact h
    · rw [hno] at h; cases h
  constructor
  · intro c
    unfold orderP
    rw [List.mem_reverse]
    constructor
    · intro h
      rcases h2.new c h with h | ⟨_, h⟩
      · cases h
      · exact h
    · intro h
      induction h with
      | here => exact hin 0 h3
      | step x t _ ht _ ih => exact hin _ (h2.di.cl x ih t ht)
  · intro pre r post e x hx t ht hr hn
    have eo : postP g = post.reverse ++ r :: pre.reverse := by
      have : (orderP g).reverse = postP g := by unfold orderP; rw [List.reverse_reverse]
      rw [← this, e]
      simp
    rw [e] at hx
    rcases List.mem_append.1 hx with h | h
    · exact h
    · rcases List.mem_cons.1 h with rfl | h
      · exact absurd hr hn
      · exfalso
        obtain ⟨a, c, ea⟩ := List.append_of_mem (List.mem_reverse.2 h)
        have e2 : postP g = a ++ x :: (c ++ r :: pre.reverse) := by rw [eo, ea]; simp
        have hra := h2.di.q a x _ e2 t ht hn r hr
        have hnd := h2.di.nd
        rw [e2] at hnd
        rw [List.nodup_append] at hnd
        exact hnd.2.2 r hra r (by simp) rfl
end Go.Proofs.Ytlejpoofgnenhaa
