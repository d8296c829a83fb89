/-
  Steps of a quiet walk (Derived/Deep/Quiet.lean) in a class of worlds of one's own: each operation's value named, by facts of its operands alone.
-/
import Derived.Test.YtbkbjjdjgiapdaaIntT
import Derived.BigQuiet
import Derived.Conc.MuLone
namespace Go.Proofs.Ytbkbjjdjgiapdaa
open Go.RowKit Num

section
variable {P : Program} {C : World → Prop} {a : Act} {o : Oper} {K : Act → Prop} {w : World}

theorem q_val (v : Value) (h : ∀ w, C w → o.quietAt P a C w v) (hk : K (a.put o.dst v)) : o.quiet P a C K := ⟨v, h, hk⟩

theorem at_same {v : Value} (h : (execOp a.eval o).run P w = .ok (.value v) w) : o.quietAt P a C w v := by
  unfold Oper.quietAt
  rw [h]
  exact ⟨rfl, rfl⟩

theorem at_load {x : Operand} {ty t : TypeId} {g : Nat} {cs : Array Value} {d : TypeDesc} (hop : o.op = .load ty x) (hx : a.eval x = .pointer (some ⟨g, 0, none⟩)) (hb : Bk w g cs t)
    (hu : P.underlying ty = some d) (hd : (match d with | .struct _ | .array _ _ => true | _ => false) = true) (hi : (P.info? ty).map (·.size) = some cs.size) : o.quietAt P a C w (.agg cs) := by
  refine at_same ?_
  have := run_loadVar_row (P := P) w g t ty cs (0, 0) d hb hu hd hi
  generalize a.eval = ρ at *
  have hs : (Instr.sureAddr (.pointer (some ⟨g, 0, none⟩))).run P w = .ok ⟨g, 0, none⟩ w := by simp [Instr.sureAddr, go_sem]
  simp [execOp, hop, hx, Instr.loadAt, hs, this]

theorem at_move {x : Operand} {v : Value} (hop : o.op = .move x) (hx : a.eval x = v) : o.quietAt P a C w v :=
  at_same (by rw [BigFrame.run_move x hop, hx])
theorem at_assign {x : Operand} {v : Value} (hop : o.op = .assign x) (hx : a.eval x = v) : o.quietAt P a C w v :=
  at_same (by rw [BigFrame.run_assign x hop, hx])

theorem at_pick {c x y : Operand} {v : Value} (hop : o.op = .pick c x y) (hc : a.eval c = .bool true) (hx : a.eval x = v) : o.quietAt P a C w v := by
  refine at_same ?_
  generalize a.eval = ρ at *
  simp [execOp, hop, hc, hx, go_sem]

theorem at_call {x : Nat} {args : Array Operand} {ts : Array TypeId} {vs : Array Value} {v : Value} (hop : o.op = .call { callee := .value (.func x), args := args, argTypes := ts })
    (hx : args.map a.eval = vs) (he : ∀ w, (callFunc x vs).run P w = .ok (.enter x vs) w) (hc : Calls P x vs w (Made w v)) (hC : ∀ w', Below w.heap.size w w' → C w') : o.quietAt P a C w v := by
  unfold Oper.quietAt
  have : (execOp a.eval o).run P w = .ok (.enter x vs) w := by
    simp [execOp, hop, resolve, hx, Deferred.ofValue, Act.eval, go_sem, he]
  rw [this]
  exact ⟨rfl, hc.mono fun e w' h => ⟨h.1, hC w' h.2⟩⟩

theorem at_eqlI {x y : Operand} {p q : Bool} {s t : ByteArray} (hop : o.op = .binOp .eql 37 x y 37) (hx : a.eval x = .agg #[.bool p, .string s]) (hy : a.eval y = .agg #[.bool q, .string t]) :
    o.quietAt Try.prog a C w (.bool (p == q && s.toList == t.toList)) := by
  refine at_same ?_
  generalize a.eval = ρ at *
  simp [execOp, hop, hx, hy, go_sem]
  by_cases h1 : p = q <;> by_cases h2 : s.toList = t.toList <;> simp [h1, h2]

theorem at_same_eqlI {x y : Operand} {p : Bool} {s : ByteArray} (hop : o.op = .binOp .eql 37 x y 37) (hx : a.eval x = .agg #[.bool p, .string s]) (hy : a.eval y = .agg #[.bool p, .string s]) :
    o.quietAt Try.prog a C w (.bool true) := by
  have := at_eqlI (C := C) (w := w) hop hx hy
  simpa using this

theorem at_loadI {x : Operand} {g : Nat} {p : Bool} {s : ByteArray} (hop : o.op = .load 37 x) (hx : a.eval x = .pointer (some ⟨g, 0, none⟩)) (hb : Bk w g #[.bool p, .string s] 37) :
    o.quietAt Try.prog a C w (.agg #[.bool p, .string s]) :=
  at_load hop hx hb Try.underlying37 rfl (by kernel_rfl)

theorem at_same_eqlN {x y : Operand} {i : Int} (hop : o.op = .binOp .eql 3 x y 3) (hx : a.eval x = .int .i64 i) (hy : a.eval y = .int .i64 i) :
    o.quietAt Try.prog a C w (.bool true) := by
  refine at_same ?_
  generalize a.eval = ρ at *
  simp [execOp, hop, hx, hy, go_sem]

theorem at_eqlN {x y : Operand} {i j : Int} (hop : o.op = .binOp .eql 3 x y 3) (hx : a.eval x = .int .i64 i) (hy : a.eval y = .int .i64 j) :
    o.quietAt Try.prog a C w (.bool (i == j)) := by
  refine at_same ?_
  generalize a.eval = ρ at *
  simp [execOp, hop, hx, hy, go_sem]

theorem at_eqlB {x y : Operand} {i j : Bool} (hop : o.op = .binOp .eql 4 x y 4) (hx : a.eval x = .bool i) (hy : a.eval y = .bool j) :
    o.quietAt Try.prog a C w (.bool (i == j)) := by
  refine at_same ?_
  generalize a.eval = ρ at *
  simp [execOp, hop, hx, hy, go_sem]

theorem at_neg {x : Operand} {i : Int} (hop : o.op = .unOp .neg 3 x) (hx : a.eval x = .int .i64 i) (h0 : -1 ≤ i) (h1 : i ≤ 1) :
    o.quietAt Try.prog a C w (.int .i64 (-i)) := by
  refine at_same ?_
  have hw : IntKind.i64.wrap (-i) = -i := by
    rcases (by omega : i = -1 ∨ i = 0 ∨ i = 1) with rfl | rfl | rfl <;> rfl
  generalize a.eval = ρ at *
  simp [execOp, hop, hx, go_sem, hw]

theorem at_neg2 {x : Operand} {i : Int} (hop : o.op = .unOp .neg 3 x) (hx : a.eval x = .int .i64 (-i)) (h0 : -1 ≤ i) (h1 : i ≤ 1) :
    o.quietAt Try.prog a C w (.int .i64 i) := by
  have := at_neg (C := C) (w := w) hop hx (by omega) (by omega)
  rwa [Int.neg_neg] at this

/-- A region that draws its order, at a class of one's own. -/
theorem wp_quietC {id : Nat} {Q : Exit → Act → World → Prop} {l : List Oper} (hm : P.follows .mixedOrders = true) (hB : Region.lexB .any l.toArray = true) (hC : C w.drew)
    (h : wpQuiet P l.toArray C (fun a' => ∀ w', C w' → Q .normal a' w') l a) : (Code.region id l.toArray true).wp P Q a w :=
  wp_region_quiet (C := C) hm hB hC (by simpa using h)
end

/-- One operation, its value named: the walk goes on as behind a 'move' of that value. -/
theorem q_fake {P : Program} {C : World → Prop} {a : Act} {K : Act → Prop} {d : Option Tmp} {op : Op} {t : TypeId} {pos : String} {af : Array Edge} {g : Option (Nat × Bool)} (v : Value)
    (h : ∀ w, C w → (Oper.mk d op t pos af g).quietAt P a C w v) (hk : (Oper.mk d (.move (.const v)) t pos af g).quiet P a C K) : (Oper.mk d op t pos af g).quiet P a C K := by
  obtain ⟨u, hu, hk⟩ := hk
  by_cases hC : ∃ w, C w
  · obtain ⟨w, hw⟩ := hC
    have h1 := hu w hw
    unfold Oper.quietAt execOp at h1
    obtain ⟨_, h1⟩ := h1
    subst h1
    exact ⟨_, h, hk⟩
  · exact ⟨u, fun w hw => absurd ⟨w, hw⟩ hC, hk⟩
theorem ent_any {f : FuncId} {fn : Func} (hf : Try.prog.funcs[f]? = some fn) (hn : (fn.name == "runtime.NumGoroutine") = false) (hb : fn.body.isSome = true) (args : Array Value) (w : World) :
    (callFunc f args).run Try.prog w = .ok (.enter f args) w := by
  obtain ⟨c, hc⟩ := Option.isSome_iff_exists.1 hb
  exact Go.MuLone.run_callFunc_enter hf hn hc args w
theorem ent_awake (args : Array Value) (w : World) : (callFunc 21 args).run Try.prog w = .ok (.enter 21 args) w := ent_any Try.func21 (by kernel_rfl) (by kernel_rfl) args w
theorem ent_cmp (args : Array Value) (w : World) : (callFunc 32 args).run Try.prog w = .ok (.enter 32 args) w := ent_any Try.func32 (by kernel_rfl) (by kernel_rfl) args w
theorem ent_of (args : Array Value) (w : World) : (callFunc 24 args).run Try.prog w = .ok (.enter 24 args) w := ent_any Try.func24 (by kernel_rfl) (by kernel_rfl) args w
end Go.Proofs.Ytbkbjjdjgiapdaa
