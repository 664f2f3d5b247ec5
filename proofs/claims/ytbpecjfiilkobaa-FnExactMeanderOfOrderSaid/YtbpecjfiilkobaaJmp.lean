/- A scope in which the run jumps to any of its labels: what holds at each jump, with a number that every pass lowers. -/
import Derived.Test.YtbpecjfiilkobaaBase
import Derived.ScopeJumps
import Derived.WalkMore
namespace Go
/-- As Q; by a goto to a label l: J l. -/
def Exit.jumpG (J : Nat → Act → World → Prop) (Q : Exit → Act → World → Prop) : Exit → Act → World → Prop
  | .goto l, a, w => J l a w
  | e, a, w => Q e a w
section
variable {P : Program} {a : Act} {w : World} {Q : Exit → Act → World → Prop}
theorem Exit.jumpG_ret (J : Nat → Act → World → Prop) : Exit.jumpG J Q .ret a w = Q .ret a w := rfl
theorem Exit.jumpG_goto (J : Nat → Act → World → Prop) (l : Nat) : Exit.jumpG J Q (.goto l) a w = J l a w := rfl
theorem Exit.jumpG_normal (J : Nat → Act → World → Prop) : Exit.jumpG J Q .normal a w = Q .normal a w := rfl
theorem wp_scope_jumpsG {c : Code} (J : Nat → Nat → Act → World → Prop)
    (pass0 : ∀ l n a w, J l n a w → ∀ Jh : Nat → Act → World → Prop, (∀ l' n' a' w', n' < n → J l' n' a' w' → Jh l' a' w') → ∃ X, findLabel c l = some (Code.skip.seq X) ∧ X.wp P (Exit.jumpG Jh Q) a w)
    (first0 : (∀ l n a w, J l n a w → ∀ Jh : Nat → Act → World → Prop, (∀ l' n' a' w', J l' n' a' w' → Jh l' a' w') → ∃ X, findLabel c l = some (Code.skip.seq X) ∧ X.wp P (Exit.jumpG Jh Q) a w) → ∀ Jh : Nat → Act → World → Prop, (∀ l' n' a' w', J l' n' a' w' → Jh l' a' w') → c.wp P (Exit.jumpG Jh Q) a w) : (Code.scope c).wp P Q a w := by
  have pass : ∀ l n a w, J l n a w → ∃ rest, findLabel c l = some rest ∧ rest.wp P (Exit.jumpG (fun l' a' w' => ∃ n', n' < n ∧ J l' n' a' w') Q) a w := fun l n a w h => by
    obtain ⟨X, h1, h2⟩ := pass0 l n a w h (fun l' a' w' => ∃ n', n' < n ∧ J l' n' a' w') fun _ n' _ _ h1 h2 => ⟨n', h1, h2⟩
    exact ⟨_, h1, wp_seq (wp_skip h2)⟩
  have first : c.wp P (Exit.jumpG (fun l' a' w' => ∃ n', J l' n' a' w') Q) a w := first0 (fun l n a w h Jh hJ => pass0 l n a w h Jh fun l' n' a' w' _ h' => hJ l' n' a' w' h') _ fun _ n' _ _ h => ⟨n', h⟩
  clear pass0 first0
  intro b k cs
  have hg : ∀ l rest, findLabel c l = some rest → gotoIn l (.inScope c :: k) = some (.code rest :: .inScope c :: k) := fun l rest hf => by simp [gotoIn, hf]
  have key : ∀ n l rest a w, J l n a w → findLabel c l = some rest → ∃ e a' w', Q e a' w' ∧ Arrives P (lone (b.at a (.code rest :: .inScope c :: k)) cs w) b k cs e a' w' := by
    intro n
    induction n using Nat.strongRecOn with
    | _ n ih =>
      intro l rest a w hJ hf
      obtain ⟨rest', hf', hp⟩ := pass l n a w hJ
      rw [hf] at hf'
      cases hf'
      obtain ⟨e, a₁, w₁, hq, harr⟩ := hp b (.inScope c :: k) cs
      cases e with
      | normal => exact ⟨.normal, a₁, w₁, hq, Steps.trans harr (.one step_inScope)⟩
      | exit id => exact ⟨.exit id, a₁, w₁, hq, fun k' hk => harr k' (by simp [exitTo, hk])⟩
      | goto l' =>
        obtain ⟨n', hlt, hJ'⟩ := hq
        obtain ⟨r2, hf2, _⟩ := pass l' n' a₁ w₁ hJ'
        obtain ⟨e₂, a₂, w₂, hq₂, harr₂⟩ := ih n' hlt l' r2 a₁ w₁ hJ' hf2
        exact ⟨e₂, a₂, w₂, hq₂, .of_steps (harr _ (hg l' r2 hf2)) harr₂⟩
      | ret => exact ⟨_, a₁, w₁, hq, harr⟩
      | panic ch => exact ⟨_, a₁, w₁, hq, harr⟩
      | outgrown => exact ⟨_, a₁, w₁, hq, harr⟩
  obtain ⟨e, a₁, w₁, hq, harr⟩ := first b (.inScope c :: k) cs
  cases e with
  | normal => exact ⟨.normal, a₁, w₁, hq, .head step_scope (Steps.trans harr (.one step_inScope))⟩
  | exit id => exact ⟨.exit id, a₁, w₁, hq, fun k' hk => .head step_scope (harr k' (by simp [exitTo, hk]))⟩
  | goto l' =>
    obtain ⟨n', hJ'⟩ := hq
    obtain ⟨r2, hf2, _⟩ := pass l' n' a₁ w₁ hJ'
    obtain ⟨e₂, a₂, w₂, hq₂, harr₂⟩ := key n' l' r2 a₁ w₁ hJ' hf2
    exact ⟨e₂, a₂, w₂, hq₂, .of_steps (.head step_scope (harr _ (hg l' r2 hf2))) harr₂⟩
  | ret => exact ⟨_, a₁, w₁, hq, .of_steps (.one step_scope) harr⟩
  | panic ch => exact ⟨_, a₁, w₁, hq, .of_steps (.one step_scope) harr⟩
  | outgrown => exact ⟨_, a₁, w₁, hq, .of_steps (.one step_scope) harr⟩
end
end Go
