/-
  Blocks on all ways: of a walk into the depth, what stands on all ways to a turn (Lengauer, Tarjan).
-/
import Derived.Test.YtoplllebaagnnaaJd1
namespace Go.Proofs.Ytoplllebaagnnaa
set_option linter.unusedVariables false
set_option linter.unusedSimpArgs false

/-- A walk into the depth: turns below m, ways, from which turn each was entered. -/
inductive Anc (par : Nat → Nat) : Nat → Nat → Prop
  | refl (a : Nat) : Anc par a a
  | step {a v : Nat} : 0 < v → Anc par a (par v) → Anc par a v
structure Dfs (m : Nat) (E : Nat → Nat → Prop) (par : Nat → Nat) : Prop where
  par_lt : ∀ v, 0 < v → v < m → par v < v
  par_E : ∀ v, 0 < v → v < m → E (par v) v
  E_lt : ∀ u v, E u v → u < m ∧ v < m
  fwd : ∀ u v, E u v → u < v → Anc par u v
  pre : ∀ v, 0 < v → v < m → Anc par (par v) (v - 1)
/-- Ways whose blocks behind the first one are all such. -/
inductive UpP (E : Nat → Nat → Prop) (P : Nat → Prop) (x : Nat) : Nat → Prop
  | first {b : Nat} : E x b → P b → UpP E P x b
  | step {b c : Nat} : UpP E P x b → E b c → P c → UpP E P x c
/-- Ways whose blocks are all such. -/
inductive PW (E : Nat → Nat → Prop) (P : Nat → Prop) (x : Nat) : Nat → Prop
  | refl : P x → PW E P x x
  | step {b c : Nat} : PW E P x b → E b c → P c → PW E P x c
def SW (E : Nat → Nat → Prop) (w x : Nat) : Prop := E x w ∨ ∃ b, UpP E (fun z => w < z) x b ∧ E b w
/-- Reached without a. -/
inductive RA (E : Nat → Nat → Prop) (a : Nat) : Nat → Prop
  | start : 0 ≠ a → RA E a 0
  | step {b c : Nat} : RA E a b → E b c → c ≠ a → RA E a c

section
variable {m : Nat} {E : Nat → Nat → Prop} {par : Nat → Nat}

theorem UpP.mono {P Q : Nat → Prop} {x b : Nat} (h : UpP E P x b) (hpq : ∀ z, P z → Q z) : UpP E Q x b := by
  induction h with
  | first he hp => exact .first he (hpq _ hp)
  | step _ he hp ih => exact .step ih he (hpq _ hp)
theorem UpP.end {P : Nat → Prop} {x b : Nat} (h : UpP E P x b) : P b := by cases h <;> assumption
theorem UpP.back {P R : Nat → Prop} {x b : Nat} (h : UpP E P x b) (hr : ∀ z, P z → PW E P z b → R z) : UpP E R x b := by
  induction h with
  | first he hp => exact .first he (hr _ hp (.refl hp))
  | step h1 he hp ih => exact .step (ih fun z hz hw => hr z hz (.step hw he hp)) he (hr _ hp (.refl hp))
theorem PW.mono {P Q : Nat → Prop} {x b : Nat} (h : PW E P x b) (hpq : ∀ z, P z → Q z) : PW E Q x b := by
  induction h with
  | refl hp => exact .refl (hpq _ hp)
  | step _ he hp ih => exact .step ih he (hpq _ hp)
theorem Anc.trans {a b c : Nat} (h1 : Anc par a b) (h2 : Anc par b c) : Anc par a c := by
  induction h2 with
  | refl => exact h1
  | step hv _ ih => exact .step hv ih
theorem Dfs.le (D : Dfs m E par) {a b : Nat} (h : Anc par a b) (hb : b < m) : a ≤ b := by
  induction h with
  | refl => exact Nat.le_refl _
  | step hv _ ih => have := D.par_lt _ hv hb; have := ih (by omega); omega
theorem Anc.up {a v : Nat} (h : Anc par a v) (hn : a ≠ v) : 0 < v ∧ Anc par a (par v) := by
  cases h with
  | refl => exact absurd rfl hn
  | step hv h => exact ⟨hv, h⟩
/-- What stands under a block is one piece of the turns. -/
theorem Dfs.mid (D : Dfs m E par) {c z : Nat} (h : Anc par c z) (hz : z < m) : ∀ {x : Nat}, c ≤ x → x ≤ z → Anc par c x := by
  induction z using Nat.strongRecOn with
  | ind z ih =>
    intro x hc hx
    by_cases hxz : x = z
    · subst hxz; exact h
    · have hcz : c ≠ z := by omega
      obtain ⟨hz0, hp⟩ := h.up hcz
      exact ih (z - 1) (by omega) (hp.trans (D.pre z hz0 hz)) (by omega) hc (by omega)
theorem Dfs.anc_lin (D : Dfs m E par) {a b w : Nat} (ha : Anc par a w) (hb : Anc par b w) (hw : w < m) (h : a ≤ b) : Anc par a b := D.mid ha hw h (D.le hb hw)
theorem Dfs.root (D : Dfs m E par) : ∀ v, v < m → Anc par 0 v := by
  intro v
  induction v using Nat.strongRecOn with
  | ind v ih =>
    intro hv
    by_cases h0 : v = 0
    · subst h0; exact .refl _
    · exact .step (by omega) (ih _ (D.par_lt v (by omega) hv) (by have := D.par_lt v (by omega) hv; omega))
/-- The least block of a way. -/
theorem Dfs.least (D : Dfs m E par) {P : Nat → Prop} {z y : Nat} (hz : z < m) (h : PW E P z y) : ∃ c, P c ∧ c ≤ z ∧ Anc par c y := by
  induction h with
  | refl hp => exact ⟨z, hp, Nat.le_refl _, .refl _⟩
  | @step b c' h1 he hp ih =>
    obtain ⟨c, hc, hcz, ha⟩ := ih
    obtain ⟨hb, hc'⟩ := D.E_lt _ _ he
    by_cases h : c' < c
    · exact ⟨c', hp, by omega, .refl _⟩
    · by_cases h2 : b < c'
      · exact ⟨c, hc, hcz, ha.trans (D.fwd _ _ he h2)⟩
      · exact ⟨c, hc, hcz, D.mid ha hb (by omega) (by omega)⟩
theorem PW.lt_end (D : Dfs m E par) {P : Nat → Prop} {z y : Nat} (hz : z < m) (h : PW E P z y) : y < m := by
  cases h with
  | refl => exact hz
  | step _ he _ => exact (D.E_lt _ _ he).2
theorem Dfs.common (D : Dfs m E par) {P : Nat → Prop} {z y : Nat} (hz : z < m) (h : PW E P z y) (hzy : z ≤ y) : ∃ c, P c ∧ Anc par c z ∧ Anc par c y := by
  obtain ⟨c, hc, hcz, ha⟩ := D.least hz h
  exact ⟨c, hc, D.mid ha (h.lt_end D hz) hcz hzy, ha⟩
theorem RA.anc_step (D : Dfs m E par) {a y w : Nat} (h : Anc par y w) (hw : w < m) (ha : a < y) (hr : RA E a y) : RA E a w := by
  induction h with
  | refl => exact hr
  | @step v hv h1 ih =>
    have := D.par_lt _ hv hw
    have h2 := D.le h1 (by omega)
    exact .step (ih (by omega)) (D.par_E _ hv hw) (by omega)
theorem Dfs.ra_of (D : Dfs m E par) {a : Nat} : ∀ b, b < m → ¬ Anc par a b → RA E a b := by
  intro b
  induction b using Nat.strongRecOn with
  | ind b ih =>
    intro hb hn
    have hba : b ≠ a := fun e => hn (e ▸ .refl _)
    by_cases h0 : b = 0
    · subst h0; exact .start hba
    · have := D.par_lt b (by omega) hb
      exact .step (ih _ this (by omega) fun h => hn (.step (by omega) h)) (D.par_E b (by omega) hb) hba
theorem Dfs.dom_anc (D : Dfs m E par) {a b : Nat} (hb : b < m) (h : ¬ RA E a b) : Anc par a b := Classical.byContradiction fun hn => h (D.ra_of b hb hn)
theorem RA.ne {a b : Nat} (h : RA E a b) : b ≠ a := by
  cases h with
  | start h => exact h
  | step _ _ h => exact h
theorem ra_sw {a w x : Nat} (hx : RA E a x) (h : SW E w x) (ha : a < w) : RA E a w := by
  rcases h with h | ⟨b, hu, he⟩
  · exact .step hx h (by omega)
  · have : RA E a b := by
      clear he
      induction hu with
      | first h1 hp => exact .step hx h1 (by have : w < _ := hp; omega)
      | step _ h1 hp ih => exact .step ih h1 (by have : w < _ := hp; omega)
    exact .step this he (by omega)
/-- A block that stands on all ways to one that is over it early. -/
theorem Dfs.lemC (D : Dfs m E par) {d w : Nat} (hw : w < m) (hd : Anc par d w) (H : ∀ y, d < y → Anc par y w → ∀ x, SW E y x → d ≤ x) : ¬ RA E d w := by
  have key : ∀ b, RA E d b → b < d ∨ ∃ x, x < d ∧ UpP E (fun z => d < z ∧ ¬ Anc par z w) x b := by
    intro b hb
    induction hb with
    | start h => left; omega
    | @step b c hr he hc ih =>
      by_cases hcd : c < d
      · exact .inl hcd
      · have hdc : d < c := by omega
        obtain ⟨hbm, hcm⟩ := D.E_lt _ _ he
        right
        have hnot : ¬ Anc par c w := by
          intro hcw
          rcases ih with ih | ⟨x, hx, hu⟩
          · have := H c hdc hcw b (.inl he); omega
          · have hu2 : UpP E (fun z => c < z) x b := hu.back fun z hz hp => by
              have hzm : z < m := by
                rcases hp with h | ⟨h, h1, _⟩
                · exact hbm
                · exact Nat.lt_of_not_le fun hn => by
                    have hzz : ∀ y, PW E (fun z => d < z ∧ ¬ Anc par z w) z y → z = y ∨ z < m := by
                      intro y hy
                      induction hy with
                      | refl => exact .inl rfl
                      | step _ he' _ ih' =>
                        rcases ih' with e | e
                        · subst e; exact .inr (D.E_lt _ _ he').1
                        · exact .inr e
                    rcases hzz _ h with e | e
                    · subst e; have := (D.E_lt _ _ h1).1; omega
                    · omega
              apply Nat.lt_of_not_le
              intro hzc
              have hp2 : PW E (fun v => (d < v ∧ ¬ Anc par v w) ∨ v = c) z c := .step (hp.mono fun v h => .inl h) he (.inr rfl)
              obtain ⟨v, hv, hvz, hvc⟩ := D.common hzm hp2 hzc
              rcases hv with ⟨_, hv⟩ | rfl
              · exact hv (hvc.trans hcw)
              · have := D.le hvz hzm
                obtain rfl : z = v := by omega
                exact hz.2 hcw
            have := H c hdc hcw x (.inr ⟨b, hu2, he⟩); omega
        rcases ih with ih | ⟨x, hx, hu⟩
        · exact ⟨b, ih, .first he ⟨hdc, hnot⟩⟩
        · exact ⟨x, hx, .step hu he ⟨hdc, hnot⟩⟩
  intro h
  rcases key w h with h1 | ⟨x, _, hu⟩
  · have := D.le hd hw; omega
  · exact hu.end.2 (.refl _)

/-- The earliest block from which one comes to w over later ones alone. -/
structure IsS (E : Nat → Nat → Prop) (w s : Nat) : Prop where
  sw : SW E w s
  le : ∀ x, SW E w x → s ≤ x
theorem Dfs.s_lt (D : Dfs m E par) {w s : Nat} (h : IsS E w s) (h0 : 0 < w) (hw : w < m) : s ≤ par w ∧ s < w := by
  have h1 := h.le (par w) (.inl (D.par_E w h0 hw))
  have h2 := D.par_lt w h0 hw
  omega
theorem Dfs.sw_dom (D : Dfs m E par) {a w s : Nat} (hw : w < m) (h : SW E w s) (hd : ¬ RA E a w) (hn : a ≠ w) : ¬ RA E a s := fun hr => by
  have h1 := D.dom_anc hw hd
  have h2 := D.le h1 hw
  exact hd (ra_sw hr h (by omega))
theorem Dfs.sw_lt (D : Dfs m E par) {w s : Nat} (h : SW E w s) : s < m := by
  rcases h with h | ⟨b, hu, he⟩
  · exact (D.E_lt _ _ h).1
  · clear he
    induction hu with
    | first h _ => exact (D.E_lt _ _ h).1
    | step _ _ _ ih => exact ih
/-- The earliest one is over it in the walk. -/
theorem Dfs.s_anc (D : Dfs m E par) {w s : Nat} (h : IsS E w s) (h0 : 0 < w) (hw : w < m) : Anc par s w := by
  obtain ⟨hs1, hs2⟩ := D.s_lt h h0 hw
  rcases h.sw with he | ⟨b, hu, he⟩
  · exact D.fwd _ _ he hs2
  · have hb : w < b := hu.end
    have hsm := D.sw_lt h.sw
    have hp : PW E (fun z => z = s ∨ w ≤ z) s w := by
      have : PW E (fun z => z = s ∨ w ≤ z) s b := by
        clear he hb
        induction hu with
        | first h1 hp => exact .step (.refl (.inl rfl)) h1 (.inr (Nat.le_of_lt hp))
        | step _ h1 hp ih => exact .step ih h1 (.inr (Nat.le_of_lt hp))
      exact .step this he (.inr (Nat.le_refl _))
    obtain ⟨c, hc, hcs, hcw⟩ := D.common hsm hp (Nat.le_of_lt hs2)
    have := D.le hcs hsm
    rcases hc with rfl | hc
    · exact hcw
    · omega
/-- The nearest other block on all ways. -/
structure IsUp (E : Nat → Nat → Prop) (w d : Nat) : Prop where
  ne : d ≠ w
  dom : ¬ RA E d w
  far : ∀ a, a ≠ w → ¬ RA E a w → ¬ RA E a d
theorem Dfs.up_same (D : Dfs m E par) {w s : Nat} (h0 : 0 < w) (hw : w < m) (hs : IsS E w s) (hu : ∀ z, s < z → Anc par z w → ∀ x, SW E z x → s ≤ x) : IsUp E w s where
  ne := by have := D.s_lt hs h0 hw; omega
  dom := D.lemC hw (D.s_anc hs h0 hw) hu
  far := fun a hn hd => D.sw_dom hw hs.sw hd hn
theorem Dfs.up_less (D : Dfs m E par) {w s u su d : Nat} (h0 : 0 < w) (hw : w < m) (hs : IsS E w s) (hsu : s < u) (huw : Anc par u w) (hsem : IsS E u su) (hlt : su < s)
    (hmin : ∀ z, s < z → Anc par z w → ∀ x, SW E z x → su ≤ x) (hd : IsUp E u d) : IsUp E w d := by
  have hum : u < m := by have := D.le huw hw; omega
  have hu0 : 0 < u := by omega
  have hsl := D.s_lt hs h0 hw
  have hsw := D.s_anc hs h0 hw
  have hdu := D.dom_anc hum hd.dom
  have hdsu : Anc par d su := by
    have h1 := D.sw_dom hum hsem.sw hd.dom hd.ne
    exact D.dom_anc (D.sw_lt hsem.sw) h1
  have hdle := D.le hdsu (D.sw_lt hsem.sw)
  have hdw : Anc par d w := hdu.trans huw
  refine ⟨by have := D.le huw hw; omega, D.lemC hw hdw ?_, ?_⟩
  · intro y hy hyw x hx
    by_cases hys : s < y
    · have := hmin y hys hyw x hx; omega
    · apply Nat.le_of_not_lt
      intro hxd
      have hyu : Anc par y u := D.anc_lin hyw huw hw (by omega)
      have hxm := D.sw_lt hx
      have r1 : RA E d x := D.ra_of x hxm fun h => by have := D.le h hxm; omega
      have r2 : RA E d y := ra_sw r1 hx hy
      exact hd.dom (r2.anc_step D hyu hum hy)
  · intro a hn hda
    have h1 := D.sw_dom hw hs.sw hda hn
    have h2 := D.dom_anc (by omega) h1
    have h3 := D.le h2 (by omega)
    refine hd.far a (by omega) fun hr => hda (hr.anc_step D huw hw (by omega))
/-- How the earliest one is found. -/
theorem Dfs.sw_in (D : Dfs m E par) {b x f : Nat} (h : UpP E (fun z => b < z) x f) : ∃ z, b < z ∧ Anc par z f ∧ SW E z x ∧ UpP E (fun v => z ≤ v) x f := by
  induction h with
  | @first f he hp => exact ⟨f, hp, .refl _, .inl he, .first he (Nat.le_refl _)⟩
  | @step f c h1 he hp ih =>
    obtain ⟨z, hz, ha, hsw, hup⟩ := ih
    obtain ⟨hfm, hcm⟩ := D.E_lt _ _ he
    by_cases h : c < z
    · exact ⟨c, hp, .refl _, .inr ⟨f, hup.mono fun v hv => by have : z ≤ v := hv; show c < v; omega, he⟩, .step (hup.mono fun v hv => by have : z ≤ v := hv; show c ≤ v; omega) he (Nat.le_refl _)⟩
    · refine ⟨z, hz, ?_, hsw, .step hup he (by show z ≤ c; omega)⟩
      by_cases h2 : f < c
      · exact ha.trans (D.fwd _ _ he h2)
      · exact D.mid ha hfm (by omega) (by omega)
theorem Dfs.sw_out (D : Dfs m E par) {b z s f : Nat} (hbz : b < z) (hs : SW E z s) (ha : Anc par z f) (hf : f < m) (he : E f b) : SW E b s := by
  have h1 : UpP E (fun v => b < v) s z := by
    rcases hs with h | ⟨y, hu, hy⟩
    · exact .first h hbz
    · exact .step (hu.mono fun v hv => by have : z < v := hv; show b < v; omega) hy hbz
  have h2 : UpP E (fun v => b < v) s f := by
    clear he
    induction ha with
    | refl => exact h1
    | @step v hv hp ih =>
      have := D.par_lt _ hv hf
      have := D.le hp (by omega)
      exact .step (ih (by omega)) (D.par_E _ hv hf) (by show b < v; omega)
  exact .inr ⟨f, h2, he⟩
end
end Go.Proofs.Ytoplllebaagnnaa
