/-
  Blocks on all ways, over plain data: each block's Up.
  Blocks on all ways, over plain data: the order.
-/
import Derived.Test.YtoplllebaagnnaaJd31
namespace Go.Proofs.Ytoplllebaagnnaa
set_option linter.unusedVariables false
set_option linter.unusedSimpArgs false

/-- One block stands on all ways to another one, or is it. -/
def OvD (g : List GB) (a b : Nat) : Prop := RR g 0 a ∧ RR g 0 b ∧ (a = b ∨ a = 0 ∨ ¬ FR g (a : Int) 0 b)
structure UpOk (g : List GB) (up : List Int) : Prop where
  len : up.length = g.length
  no : ∀ b, b < g.length → (b = 0 ∨ ¬ RR g 0 b) → up.getD b 0 = -1
  is_ : ∀ b, RR g 0 b → b ≠ 0 → ∃ u : Nat, up.getD b 0 = u ∧ u ≠ b ∧ OvD g u b ∧ ∀ a, a ≠ b → OvD g a b → OvD g a u
section
variable {g : List GB} {en : En}
theorem EnI.inj (h : EnI g en []) {s t : Nat} (hs : s < en.blocks.length) (ht : t < en.blocks.length) (he : en.blocks.getD s 0 = en.blocks.getD t 0) : s = t := by
  have h1 := (h.inv1 s hs).2.2
  have h2 := (h.inv1 t ht).2.2
  rw [he, h2] at h1
  omega
theorem EnI.go (hg : tosOk g) (h : EnI g en []) {u : Nat} (hu : u < en.blocks.length) {t : Int} (ht : t ∈ tosG g (en.blocks.getD u 0).toNat) : ∃ v, v < en.blocks.length ∧ en.turn.getD t.toNat 0 = v ∧ en.blocks.getD v 0 = t := by
  have hin := hg _ _ ht
  have h1 := (h.cov u hu t ht).resolve_right (by simp)
  rcases h.inv2 t.toNat (by omega) with q | ⟨v, q1, q2, q3⟩
  · exact absurd q h1
  · exact ⟨v, q1, q2, by rw [q3]; omega⟩
theorem EnI.rr (hg : tosOk g) (h : EnI g en []) {x : Nat} (hx : RR g 0 x) : ∃ t, t < en.blocks.length ∧ en.blocks.getD t 0 = x := by
  induction hx with
  | here => exact ⟨0, h.pos, h.b0⟩
  | step x t h1 h2 h3 ih =>
    obtain ⟨u, u1, u2⟩ := ih
    obtain ⟨v, v1, v2, v3⟩ := h.go hg u1 (t := t) (by rw [u2]; exact h2)
    have := hg _ _ h2
    exact ⟨v, v1, by rw [v3]; omega⟩
theorem EnI.reach (hg : tosOk g) (h : EnI g en []) : ∀ t, t < en.blocks.length → RR g 0 (en.blocks.getD t 0).toNat := by
  intro t
  induction t using Nat.strongRecOn with
  | ind t ih =>
    intro ht
    by_cases h0 : t = 0
    · subst h0; rw [h.b0]; exact FR.here
    · have h1 := h.dfs.par_lt t (by omega) ht
      have h2 := h.dfs.par_E t (by omega) ht
      have h3 := hg _ _ h2.2.2
      exact FR.step _ _ (ih _ h1 (by omega)) h2.2.2 (by omega)
/-- Without a block: over turns, and over blocks. -/
theorem EnI.ra_fr (hg : tosOk g) (h : EnI g en []) {ta tb : Nat} (hta : ta < en.blocks.length) (hr : RA (Ed g en.blocks) ta tb) : ta ≠ 0 ∧ FR g (en.blocks.getD ta 0) 0 (en.blocks.getD tb 0).toNat := by
  induction hr with
  | start h0 => exact ⟨fun e => h0 e.symm, by rw [h.b0]; exact FR.here⟩
  | @step b c _ he hc ih =>
    refine ⟨ih.1, FR.step _ _ ih.2 he.2.2 (fun e => hc (h.inj he.2.1 hta e))⟩
theorem EnI.fr_ra (hg : tosOk g) (h : EnI g en []) {ta x : Nat} (h0 : ta ≠ 0) (hr : FR g (en.blocks.getD ta 0) 0 x) : ∃ t, t < en.blocks.length ∧ en.blocks.getD t 0 = x ∧ RA (Ed g en.blocks) ta t := by
  induction hr with
  | here => exact ⟨0, h.pos, h.b0, .start (fun e => h0 e.symm)⟩
  | step x t h1 h2 h3 ih =>
    obtain ⟨u, u1, u2, u3⟩ := ih
    obtain ⟨v, v1, v2, v3⟩ := h.go hg u1 (t := t) (by rw [u2]; exact h2)
    have := hg _ _ h2
    refine ⟨v, v1, by rw [v3]; omega, .step u3 ⟨u1, v1, by rw [v3, u2]; exact h2⟩ (fun e => h3 ?_)⟩
    rw [← v3, e]
theorem EnI.ovd (hg : tosOk g) (h : EnI g en []) {ta tb : Nat} (hta : ta < en.blocks.length) (htb : tb < en.blocks.length) : OvD g (en.blocks.getD ta 0).toNat (en.blocks.getD tb 0).toNat ↔ ¬ RA (Ed g en.blocks) ta tb := by
  have ha := h.inv1 ta hta
  have hb := h.inv1 tb htb
  have hcast : (((en.blocks.getD ta 0).toNat : Nat) : Int) = en.blocks.getD ta 0 := by omega
  constructor
  · rintro ⟨h1, h2, h3⟩ hr
    obtain ⟨q1, q2⟩ := h.ra_fr hg hta hr
    rcases h3 with e | e | e
    · exact hr.ne (h.inj htb hta (by omega))
    · refine q1 (h.inj hta h.pos ?_)
      rw [h.b0]; omega
    · rw [hcast] at e; exact e q2
  · intro hn
    refine ⟨h.reach hg ta hta, h.reach hg tb htb, ?_⟩
    by_cases e : ta = 0
    · right; left; rw [e, h.b0]; rfl
    · right; right
      rw [hcast]
      intro hf
      obtain ⟨t, t1, t2, t3⟩ := h.fr_ra hg e hf
      obtain rfl : t = tb := h.inj t1 htb (by omega)
      exact hn t3

theorem bkIns_ok {m : Nat} {i : Nat} {turn : List Int} (hm : m ≤ 1000) (hi : i < m) : ∀ (xs : List Int) (ls : List (List Int)), ls.length = m → (∀ t, (ls.getD t []).length + 2 * xs.length ≤ 4 * (i + 1)) → (∀ x ∈ xs, 0 ≤ x ∧ x < turn.length ∧ ∃ t : Nat, turn.getD x.toNat 0 = t ∧ t < m) →
    ∃ ls', bkIns turn (i : Int) xs ls = some ls' ∧ ls'.length = m ∧ (∀ t, (ls'.getD t []).length ≤ 4 * (i + 1)) ∧ ∀ t, t < m → ∀ y, y ∈ ls'.getD t [] ↔ (y ∈ ls.getD t [] ∨ (y = i ∧ ∃ x ∈ xs, turn.getD x.toNat 0 = t))
  | [], ls, hl, hb, hx => ⟨ls, rfl, hl, fun t => by have := hb t; simp at this; simpa using this, fun t ht y => by simp⟩
  | x :: xs, ls, hl, hb, hx => by
    obtain ⟨h0, h1, t, h2, h3⟩ := hx x (by simp)
    have hrd : rdI turn x = some (t : Int) := by unfold rdI; rw [if_pos ⟨h0, h1⟩, h2]
    have hbt := hb t
    simp only [List.length_cons] at hbt
    have hset : ∀ s, s < m → (ls.set t (ls.getD t [] ++ [(i : Int)])).getD s [] = if s = t then ls.getD t [] ++ [(i : Int)] else ls.getD s [] := fun s hs => by
      rw [getD_set_eq]
      by_cases e : s = t
      · rw [if_pos ⟨e, by omega⟩, if_pos e]
      · rw [if_neg (by omega), if_neg e]
    obtain ⟨ls', r1, r2, r3, r4⟩ := bkIns_ok hm hi xs (ls.set t (ls.getD t [] ++ [(i : Int)])) (by simpa using hl) (fun s => by
      have hs := hb s
      simp only [List.length_cons] at hs
      rw [getD_set_eq]
      split
      · rw [List.length_append, List.length_singleton]; omega
      · omega) (fun y hy => hx y (List.mem_cons_of_mem _ hy))
    refine ⟨ls', ?_, r2, r3, fun s hs y => ?_⟩
    · rw [bkIns, hrd, Option.bind_some, Int.toNat_natCast, if_pos ⟨by omega, by omega, by omega⟩]
      exact r1
    · rw [r4 s hs y, hset s hs]
      constructor
      · rintro (h | ⟨h, z, hz, hzt⟩)
        · split at h
          · next e =>
            rcases List.mem_append.1 h with h | h
            · left; rw [e]; exact h
            · right; exact ⟨by simpa using h, x, by simp, by rw [h2, e]⟩
          · exact .inl h
        · exact .inr ⟨h, z, List.mem_cons_of_mem _ hz, hzt⟩
      · rintro (h | ⟨h, z, hz, hzt⟩)
        · left; split
          · next e => rw [e] at h; exact List.mem_append_left _ h
          · exact h
        · rcases List.mem_cons.1 hz with e | hz
          · left
            have : s = t := by rw [e, h2] at hzt; omega
            rw [if_pos this, h]; simp
          · exact .inr ⟨h, z, hz, hzt⟩
theorem bkRun_ok (hg : tosOk g) (h2 : ∀ b, (tosG g b).length ≤ 2) (h : EnI g en []) (hm : en.blocks.length ≤ 1000) : ∀ (k i : Nat) (ls : List (List Int)), i + k = en.blocks.length → ls.length = en.blocks.length → (∀ t, (ls.getD t []).length ≤ 4 * i) → (∀ t, t < en.blocks.length → ∀ y, y ∈ ls.getD t [] ↔ ∃ u : Nat, u < i ∧ y = u ∧ Ed g en.blocks u t) →
    ∃ ls', bkRun g en.turn i (en.blocks.drop i) ls = some ls' ∧ ls'.length = en.blocks.length ∧ (∀ t, (ls'.getD t []).length ≤ 4 * en.blocks.length) ∧ ∀ t, t < en.blocks.length → ∀ y, y ∈ ls'.getD t [] ↔ ∃ u : Nat, y = u ∧ Ed g en.blocks u t
  | 0, i, ls, hi, hl, hb, hs => by
    obtain rfl : i = en.blocks.length := by omega
    refine ⟨ls, by rw [List.drop_length]; rfl, hl, hb, fun t ht y => ?_⟩
    rw [hs t ht]
    constructor
    · rintro ⟨u, _, h⟩; exact ⟨u, h⟩
    · rintro ⟨u, h, he⟩; exact ⟨u, he.1, h, he⟩
  | k + 1, i, ls, hi, hl, hb, hs => by
    have hil : i < en.blocks.length := by omega
    have hd : en.blocks.drop i = en.blocks.getD i 0 :: en.blocks.drop (i + 1) := by
      rw [List.drop_eq_getElem_cons hil]; simp [List.getD, hil]
    obtain ⟨b0, b1, b2⟩ := h.inv1 i hil
    rw [hd, bkRun, if_pos ⟨b0, b1⟩]
    have htl := h.tl
    obtain ⟨ls1, r1, r2, r3, r4⟩ := bkIns_ok (turn := en.turn) hm hil (tosG g (en.blocks.getD i 0).toNat) ls hl (fun t => by have := hb t; have := h2 (en.blocks.getD i 0).toNat; omega) (fun x hx => by
      have := hg _ _ hx
      obtain ⟨v, v1, v2, v3⟩ := h.go hg hil hx
      exact ⟨this.1, by omega, v, v2, v1⟩)
    rw [r1, Option.bind_some]
    refine bkRun_ok hg h2 h hm k (i + 1) ls1 (by omega) r2 r3 (fun t ht y => ?_)
    rw [r4 t ht y, hs t ht y]
    constructor
    · rintro (⟨u, u1, u2, u3⟩ | ⟨u1, x, u2, u3⟩)
      · exact ⟨u, by omega, u2, u3⟩
      · obtain ⟨v, v1, v2, v3⟩ := h.go hg hil u2
        have : v = t := by omega
        exact ⟨i, by omega, u1, hil, ht, by rw [← this, v3]; exact u2⟩
    · rintro ⟨u, u1, u2, u3⟩
      by_cases e : u = i
      · right
        subst e
        exact ⟨u2, _, u3.2.2, (h.inv1 t ht).2.2⟩
      · exact .inl ⟨u, by omega, u2, u3⟩
theorem out_ok (h : EnI g en []) {upE : List Int} (hl : upE.length = en.blocks.length) (hu : ∀ t, t < en.blocks.length → upE.getD t 0 = -1 ∨ ∃ d : Nat, upE.getD t 0 = d ∧ d < en.blocks.length) : ∀ (k i : Nat) (up : List Int), i + k = en.blocks.length → up.length = g.length → (∀ t, t < i → up.getD (en.blocks.getD t 0).toNat 0 = if upE.getD t 0 = -1 then -1 else en.blocks.getD (upE.getD t 0).toNat 0) →
    (∀ b, b < g.length → (∀ t, t < i → en.blocks.getD t 0 ≠ b) → up.getD b 0 = -1) →
    ∃ up', outP en.blocks (upE.drop i) i up = some up' ∧ up'.length = g.length ∧ (∀ t, t < en.blocks.length → up'.getD (en.blocks.getD t 0).toNat 0 = if upE.getD t 0 = -1 then -1 else en.blocks.getD (upE.getD t 0).toNat 0) ∧ (∀ b, b < g.length → (∀ t, t < en.blocks.length → en.blocks.getD t 0 ≠ b) → up'.getD b 0 = -1)
  | 0, i, up, hi, hul, h1, h2 => by
    obtain rfl : i = en.blocks.length := by omega
    exact ⟨up, by rw [← hl, List.drop_length]; rfl, hul, h1, h2⟩
  | k + 1, i, up, hi, hul, h1, h2 => by
    have hil : i < en.blocks.length := by omega
    have hd : upE.drop i = upE.getD i 0 :: upE.drop (i + 1) := by
      have : i < upE.length := by omega
      rw [List.drop_eq_getElem_cons this]; simp [List.getD, this]
    obtain ⟨b0, b1, b2⟩ := h.inv1 i hil
    rw [hd, outP]
    rcases hu i hil with q | ⟨d, q, hdm⟩
    · rw [if_pos q]
      refine out_ok h hl hu k (i + 1) up (by omega) hul (fun t ht => ?_) (fun b hb hn => h2 b hb (fun t ht => hn t (by omega)))
      by_cases e : t = i
      · subst e
        rw [if_pos q]
        refine h2 _ (by omega) (fun s hs e => ?_)
        have : s = t := h.inj (by omega) hil (by omega)
        omega
      · exact h1 t (by omega)
    · have hdl := h.inv1 d hdm
      rw [q, if_neg (by omega), rdI_at hil, Option.bind_some, rdI_at hdm, Option.bind_some]
      have hw : wrI up (en.blocks.getD i 0) (en.blocks.getD d 0) = some (up.set (en.blocks.getD i 0).toNat (en.blocks.getD d 0)) := by unfold wrI; rw [if_pos ⟨b0, by omega⟩]
      rw [hw, Option.bind_some]
      refine out_ok h hl hu k (i + 1) _ (by omega) (by simpa using hul) (fun t ht => ?_) (fun b hb hn => ?_)
      · rw [getD_set_eq]
        by_cases e : t = i
        · subst e
          rw [if_pos ⟨rfl, by omega⟩, q, if_neg (by omega), Int.toNat_natCast]
        · have hne : (en.blocks.getD t 0).toNat ≠ (en.blocks.getD i 0).toNat := fun e2 => by
            have ht1 := h.inv1 t (by omega)
            exact e (h.inj (by omega) hil (by omega))
          rw [if_neg (by omega)]
          exact h1 t (by omega)
      · have := hn i (by omega)
        rw [getD_set_eq, if_neg (by omega)]
        exact h2 b hb (fun t ht => hn t (by omega))
end

/-- Each block's Up is found. -/
theorem ups_ok {g : List GB} (hg : tosOk g) (h2 : ∀ b, (tosG g b).length ≤ 2) (hn : g.length ≤ 1000) (hp : 0 < g.length) : ∃ (ke k0 m : Nat) (en : En) (bk : List (List Int)) (sE : Sr) (upE up : List Int), k0 ≤ 1048576 ∧ 1 ≤ m ∧ m ≤ 1048576 ∧
    enRun g ke ⟨[], List.replicate g.length (-1), []⟩ [(-1, 0)] = some en ∧ en.blocks.length = m ∧ en.from_.length = m ∧ en.turn.length ≤ 1048576 ∧
    bkRun g en.turn 0 en.blocks (List.replicate m []) = some bk ∧ (∀ t, (bk.getD t []).length ≤ 1048576) ∧
    rnRun k0 en.from_ bk (m - 1) ⟨List.replicate m (-1), upTo m m, List.replicate m (-1), upTo m m, List.replicate m []⟩ = some sE ∧ finP sE.early m 0 sE.up = some upE ∧ upE.length = m ∧
    outP en.blocks upE 0 (List.replicate g.length (-1)) = some up ∧ UpOk g up := by
  obtain ⟨en, he, h⟩ := enRun_start hg h2 hn hp
  have hcnt := h.cnt
  have htl := h.tl
  obtain ⟨m, hm⟩ : ∃ m, m = en.blocks.length := ⟨_, rfl⟩
  have hmp : 0 < m := by rw [hm]; exact h.pos
  obtain ⟨bk, b1, b2, b3, b4⟩ := bkRun_ok hg h2 h (by omega) en.blocks.length 0 (List.replicate en.blocks.length []) (by omega) (by simp) (fun t => by
    have : (List.replicate en.blocks.length ([] : List Int)).getD t [] = [] := by simp only [List.getD, List.getElem?_replicate]; split <;> rfl
    rw [this]; simp) (fun t ht y => by simp [List.getD, ht])
  rw [List.drop_zero] at b1
  have D := h.dfs
  obtain ⟨sE, s1, s2⟩ := rn_ok D (k := m) (from_ := en.from_) (back := bk) (by omega) (by omega) h.fl (fun v h0 hv => by
    have := h.fp v h0 hv
    unfold prN; omega) b4 (m - 1) _ (by omega) (by rw [show m - 1 + 1 = m by omega, ← hm]; exact rn_start hmp)
  obtain ⟨upE, u1, u2, u3, u4⟩ := fin_ok D s2.ch.le (fun x h0 hx => s2.ee x (by omega) hx) en.blocks.length 0 sE.up (by omega) s2.lu (fun h0 => s2.up0 0 (by omega) h0) (fun y h0 h1 => by omega) (fun y h0 _ hy => s2.all D h0 hy)
  have hup0 := u3 h.pos
  have hd : ∀ t, t < en.blocks.length → upE.getD t 0 = -1 ∨ ∃ d : Nat, upE.getD t 0 = d ∧ d < en.blocks.length := fun t ht => by
    by_cases h0 : t = 0
    · subst h0; exact .inl hup0
    · obtain ⟨d, d1, d2⟩ := u4 t (by omega) ht
      have := D.le (D.dom_anc ht d2.dom) ht
      exact .inr ⟨d, d1, by omega⟩
  obtain ⟨up, o1, o2, o3, o4⟩ := out_ok h u2 hd en.blocks.length 0 (List.replicate g.length (-1)) (by omega) (by simp) (fun t ht => by omega) (fun b hb _ => by simp [List.getD, hb])
  rw [List.drop_zero] at o1
  refine ⟨3 * g.length + 1, m, m, en, bk, sE, upE, up, by omega, by omega, by omega, he, hm.symm, by rw [hm]; exact h.fl, by omega, by rw [hm]; exact b1, fun t => by have := b3 t; omega, s1, by rw [hm]; exact u1, by rw [hm]; exact u2, o1, o2, fun b hb hno => ?_, fun b hb h0 => ?_⟩
  · by_cases hr : ∃ t, t < en.blocks.length ∧ en.blocks.getD t 0 = b
    · obtain ⟨t, t1, t2⟩ := hr
      have hb0 : b = 0 := by
        rcases hno with q | q
        · exact q
        · exact absurd (by have := h.reach hg t t1; rw [t2] at this; exact this) q
      have : t = 0 := h.inj t1 h.pos (by rw [h.b0, t2, hb0]; rfl)
      have hh := o3 t t1
      rw [t2, this, if_pos hup0] at hh
      simpa using hh
    · exact o4 b hb (fun t ht e => hr ⟨t, ht, e⟩)
  · obtain ⟨t, t1, t2⟩ := h.rr hg hb
    have ht0 : t ≠ 0 := fun e => by subst e; rw [h.b0] at t2; omega
    obtain ⟨d, d1, d2⟩ := u4 t (by omega) t1
    have hda := D.dom_anc t1 d2.dom
    have hdl := D.le hda t1
    have hdt : d < en.blocks.length := by omega
    have hdb := h.inv1 d hdt
    have hh := o3 t t1
    rw [t2, d1, if_neg (by omega)] at hh
    simp only [Int.toNat_natCast] at hh
    have hbt : (en.blocks.getD t 0).toNat = b := by rw [t2]; rfl
    refine ⟨(en.blocks.getD d 0).toNat, by rw [hh]; omega, fun e => ?_, ?_, fun a hab ho => ?_⟩
    · have : d = t := h.inj hdt t1 (by omega)
      exact d2.ne this
    · have := (h.ovd hg hdt t1).2 d2.dom
      rw [hbt] at this
      exact this
    · obtain ⟨ta, a1, a2⟩ := h.rr hg ho.1
      have hat : (en.blocks.getD ta 0).toNat = a := by rw [a2]; rfl
      have hq := (h.ovd hg a1 t1).1 (by rw [hat, hbt]; exact ho)
      have hne : ta ≠ t := fun e => hab (by rw [← hat, ← hbt, e])
      have := (h.ovd hg a1 hdt).2 (d2.far ta hne hq)
      rw [hat] at this
      exact this
end Go.Proofs.Ytoplllebaagnnaa
namespace Go.Proofs.Ytoplllebaagnnaa
set_option linter.unusedVariables false
set_option linter.unusedSimpArgs false

/-- Of a block that is left, but the first one, one that leads to it is left later. -/
def PO (g : List GB) (X : Nat → Prop) (o : List Nat) : Prop := ∀ l1 c l2, o = l1 ++ c :: l2 → (∃ p ∈ l2, (c : Int) ∈ tosG g p) ∨ X c
theorem PO.mono {g : List GB} {X Y : Nat → Prop} {o : List Nat} (h : PO g X o) (hxy : ∀ c, X c → Y c) : PO g Y o := fun l1 c l2 e => (h l1 c l2 e).imp id (hxy c)
theorem go_po {g : List GB} (hg : tosOk g) {k : Nat} (ih : ∀ (X : Nat → Prop) (b : Nat) (s : List Bool) (o : List Nat) (s' : List Bool) (o' : List Nat), walkP g k b s o = some (s', o') → PO g X o → PO g (fun c => X c ∨ c = b) o') (b : Nat) :
    ∀ (ts : List Int) (X : Nat → Prop) (s : List Bool) (o : List Nat) (s1 : List Bool) (o1 : List Nat), goP (walkP g k) ts s o = some (s1, o1) → (∀ t ∈ ts, t ∈ tosG g b) → PO g X o → PO g (fun c => X c ∨ (c : Int) ∈ tosG g b) o1
  | [], X, s, o, s1, o1, h, _, hp => by
    simp [goP] at h
    obtain ⟨rfl, rfl⟩ := h
    exact hp.mono fun c h => .inl h
  | t :: ts, X, s, o, s1, o1, h, ht, hp => by
    unfold goP at h
    have hts : ∀ x ∈ ts, x ∈ tosG g b := fun x hx => ht x (List.mem_cons_of_mem _ hx)
    have ht0 := ht t (by simp)
    have := hg b t ht0
    split at h
    · exact go_po hg ih b ts X s o s1 o1 h hts hp
    · cases hw : walkP g k t.toNat s o with
      | none => rw [hw] at h; cases h
      | some r =>
        obtain ⟨s2, o2⟩ := r
        rw [hw] at h
        have h1 := ih X t.toNat s o s2 o2 hw hp
        have h2 : PO g (fun c => X c ∨ (c : Int) ∈ tosG g b) o2 := h1.mono fun c hc => by
          rcases hc with hc | rfl
          · exact .inl hc
          · right; rw [Int.toNat_of_nonneg this.1]; exact ht0
        exact (go_po hg ih b ts _ s2 o2 s1 o1 h hts h2).mono fun c hc => by
          rcases hc with hc | hc
          · exact hc
          · exact .inr hc
theorem walk_po {g : List GB} (hg : tosOk g) : ∀ (k : Nat) (X : Nat → Prop) (b : Nat) (s : List Bool) (o : List Nat) (s' : List Bool) (o' : List Nat), walkP g k b s o = some (s', o') → PO g X o → PO g (fun c => X c ∨ c = b) o' := by
  intro k
  induction k with
  | zero => intro X b s o s' o' h; simp [walkP] at h
  | succ k ih =>
    intro X b s o s' o' h hp
    unfold walkP at h
    cases hw : goP (walkP g k) (tosG g b) (s.set b true) o with
    | none => rw [hw] at h; cases h
    | some r =>
      obtain ⟨s1, o1⟩ := r
      rw [hw] at h
      simp only [Option.some.injEq, Prod.mk.injEq] at h
      obtain ⟨rfl, rfl⟩ := h
      have h1 := go_po hg ih b (tosG g b) X (s.set b true) o s1 o1 hw (fun t ht => ht) hp
      intro l1 c l2 e
      rcases List.append_eq_append_iff.1 e with ⟨a, e1, e2⟩ | ⟨a, e1, e2⟩
      · cases a with
        | nil =>
          rw [List.nil_append] at e2
          injection e2 with e2 e3
          exact .inr (.inr e2.symm)
        | cons x a =>
          rw [List.cons_append] at e2
          injection e2 with e2 e3
          simp at e3
      · cases a with
        | nil =>
          rw [List.nil_append] at e2
          injection e2 with e2 e3
          exact .inr (.inr e2)
        | cons x a =>
          rw [List.cons_append] at e2
          injection e2 with e2 e3
          subst e2
          rcases h1 l1 c a e1 with ⟨p, q1, q2⟩ | q | q
          · exact .inl ⟨p, by rw [e3]; exact List.mem_append_left _ q1, q2⟩
          · exact .inr (.inl q)
          · exact .inl ⟨b, by rw [e3]; simp, q⟩

/-- The order of blocks: reached ones, each behind those that stand over it. -/
structure OrdOk (g : List GB) (O : List Nat) : Prop where
  nd : O.Nodup
  mem : ∀ c, c ∈ O ↔ RR g 0 c
  lt : ∀ c ∈ O, c < g.length
  pred : ∀ (pre : List Nat) (b : Nat) (post : List Nat), O = pre ++ b :: post → (∃ p ∈ pre, (b : Int) ∈ tosG g p) ∨ b = 0
theorem OvD.refl {g : List GB} {a : Nat} (h : RR g 0 a) : OvD g a a := ⟨h, h, .inl rfl⟩
theorem ovd_zero {g : List GB} {a : Nat} (h : OvD g a 0) : a = 0 := by
  rcases h.2.2 with e | e | e
  · exact e
  · exact e
  · exact absurd FR.here e
theorem OvD.trans {g : List GB} {a b c : Nat} (h : OvD g a b) (k : OvD g b c) : OvD g a c := by
  refine ⟨h.1, k.2.1, ?_⟩
  rcases h.2.2 with rfl | e | e
  · exact k.2.2
  · exact .inr (.inl e)
  · rcases k.2.2 with rfl | e2 | e2
    · exact .inr (.inr e)
    · subst e2; exact .inr (.inl (ovd_zero h))
    · refine .inr (.inr fun hf => ?_)
      have key : ∀ x, FR g (a : Int) 0 x → FR g (a : Int) 0 b ∨ FR g (b : Int) 0 x := by
        intro x hx
        induction hx with
        | here => exact .inr FR.here
        | step x t h1 h2 h3 ih =>
          rcases ih with q | q
          · exact .inl q
          · by_cases e : t = (b : Int)
            · left
              have := FR.step x t h1 h2 h3
              rw [e] at this
              simpa using this
            · exact .inr (FR.step x t q h2 e)
      rcases key c hf with q | q
      · exact e q
      · exact e2 q
/-- What stands over a block stands over what leads to it. -/
theorem OvD.pred {g : List GB} {a b p : Nat} (h : OvD g a b) (hn : a ≠ b) (hp : RR g 0 p) (ht : (b : Int) ∈ tosG g p) : OvD g a p := by
  refine ⟨h.1, hp, ?_⟩
  rcases h.2.2 with e | e | e
  · exact absurd e hn
  · exact .inr (.inl e)
  · by_cases e2 : a = p
    · exact .inl e2
    · refine .inr (.inr fun hf => e ?_)
      have := FR.step p (b : Int) hf ht (by omega)
      simpa using this
theorem OrdOk.ahead {g : List GB} {O : List Nat} (h : OrdOk g O) : ∀ (n : Nat) (pre : List Nat) (b : Nat) (post : List Nat), pre.length = n → O = pre ++ b :: post → ∀ a, OvD g a b → a ≠ b → a ∈ pre := by
  intro n
  induction n using Nat.strongRecOn with
  | ind n ih =>
    intro pre b post hl e a ho hn
    rcases h.pred pre b post e with ⟨p, p1, p2⟩ | e0
    · by_cases hap : a = p
      · rw [hap]; exact p1
      · obtain ⟨l1, l2, e1⟩ := List.append_of_mem p1
        have hpO : p ∈ O := by rw [e]; exact List.mem_append_left _ p1
        have hop := ho.pred hn ((h.mem p).1 hpO) p2
        have := ih l1.length (by rw [← hl, e1, List.length_append, List.length_cons]; omega) l1 p (l2 ++ b :: post) rfl (by rw [e, e1]; simp) a hop hap
        rw [e1]; exact List.mem_append_left _ this
    · subst e0; exact absurd (ovd_zero ho) hn
theorem OrdOk.anti {g : List GB} {O : List Nat} (h : OrdOk g O) {a b : Nat} (h1 : OvD g a b) (h2 : OvD g b a) : a = b := Classical.byContradiction fun hn => by
  obtain ⟨l1, l2, e⟩ := List.append_of_mem ((h.mem b).2 h1.2.1)
  have ha := h.ahead _ l1 b l2 rfl e a h1 hn
  obtain ⟨k1, k2, e2⟩ := List.append_of_mem ha
  have hb := h.ahead _ k1 a (k2 ++ b :: l2) rfl (by rw [e, e2]; simp) b h2 (fun e => hn e.symm)
  have hnd := h.nd
  rw [e] at hnd
  have hbl : b ∈ l1 := by rw [e2]; exact List.mem_append_left _ hb
  exact (List.nodup_append.1 hnd).2.2 b hbl b (by simp) rfl
/-- What stands over a block, but itself, stands over its Up. -/
theorem ovd_up {g : List GB} {up : List Int} (hu : UpOk g up) {b u x : Nat} (hb : RR g 0 b) (h0 : b ≠ 0) (hub : up.getD b 0 = u) (hx : x ≠ b) : OvD g x b ↔ OvD g x u := by
  obtain ⟨u', u1, u2, u3, u4⟩ := hu.is_ b hb h0
  obtain rfl : u = u' := by omega
  exact ⟨u4 x hx, fun h => h.trans u3⟩
end Go.Proofs.Ytoplllebaagnnaa
